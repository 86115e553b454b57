/- The reference's sort by halves, and its test for a name that stands twice. -/
import Derived.Test.YtmoblfdepcjgfaaDoorOrder
import Derived.Test.YtmoblfdepcjgfaaDoorCopyV
import Derived.Deep.RegionHeld3
import Derived.Laws.Cover1
namespace Go.Proofs.YtmoblfdepcjgfaaDoor.Sorted
open Go.RowKit Go.Proofs.YtmoblfdepcjgfaaDoor.Base Go.Proofs.YtmoblfdepcjgfaaDoor.Eq Go.Proofs.YtmoblfdepcjgfaaDoor.Names Go.Proofs.YtmoblfdepcjgfaaDoor.Lend Go.Proofs.YtmoblfdepcjgfaaDoor.Order
set_option linter.unusedVariables false

theorem own_tx {w : World} {B : Nat} {u : Value} {L : List ByteArray} (ho : OwnT w B u L) (h1 : L.length * 16 ≤ 140737488351232) (h2 : ∀ t ∈ L, t.size ≤ 140737488351232) : Tx false All w u L := by
  rcases ho.2 with ⟨rfl, h0⟩ | ⟨g, cap2, cur, rfl, _, _, hn2, hm2, _⟩
  · have : L = [] := List.eq_nil_of_length_eq_zero h0
    subst this
    exact ⟨none, 0, rfl, by simp, by simp, by simp, by simp, fun _ => rfl, .inl ⟨rfl, rfl⟩⟩
  · exact ⟨_, cap2, rfl, hn2, hm2, h1, h2, (fun h => by cases h), .inr ⟨g, 0, rfl, trivial, ownT_cell ho, fun h => by cases h⟩⟩
theorem tx_take {w : World} {g o cap : Nat} {L : List ByteArray} (h : Tx false All w (.slice (some ⟨g, o, none⟩) L.length cap) L) (q : Nat) (hq : q ≤ L.length) : Tx false All w (.slice (some ⟨g, o, none⟩) q cap) (L.take q) := by
  obtain ⟨a, cap', e, hlc, hm, hlen, hsz, hnil, hN⟩ := h.out
  cases e
  have hl : (L.take q).length = q := by simp; omega
  refine ⟨_, cap, by rw [hl], by omega, hm, by omega, fun t ht => hsz t (List.mem_of_mem_take ht), hnil, ?_⟩
  rcases hN with ⟨rfl, _⟩ | ⟨g', o', e, -, hc, -⟩
  · exact .inl ⟨by simp, rfl⟩
  · cases e
    exact .inr ⟨g, o, rfl, trivial, fun j hj => by rw [List.getElem_take]; exact hc j (by omega), fun h => by cases h⟩
theorem tx_drop {w : World} {g o cap : Nat} {L : List ByteArray} (h : Tx false All w (.slice (some ⟨g, o, none⟩) L.length cap) L) (q : Nat) (hq : q ≤ L.length) : Tx false All w (.slice (some ⟨g, o + q, none⟩) (L.length - q) (cap - q)) (L.drop q) := by
  obtain ⟨a, cap', e, hlc, hm, hlen, hsz, hnil, hN⟩ := h.out
  cases e
  have hl : (L.drop q).length = L.length - q := by simp
  refine ⟨_, cap - q, by rw [hl], by omega, Nat.le_trans (Nat.sub_le _ _) hm, by omega, fun t ht => hsz t (List.mem_of_mem_drop ht), (fun h => by cases h), ?_⟩
  rcases hN with ⟨rfl, _⟩ | ⟨g', o', e, -, hc, -⟩
  · exact .inl ⟨by simp, rfl⟩
  · cases e
    exact .inr ⟨g, o + q, rfl, trivial, fun j hj => by rw [List.getElem_drop, Nat.add_assoc]; exact hc (q + j) (by omega), fun h => by cases h⟩
theorem tx_next {w : World} {g o cap : Nat} {L : List ByteArray} (h : Tx false All w (.slice (some ⟨g, o, none⟩) L.length cap) L) (hp : 0 < L.length) : Tx false All w (.slice (if cap = 1 then some ⟨g, o, none⟩ else some ⟨g, o + 1, none⟩) (L.length - 1) (cap - 1)) (L.drop 1) := by
  by_cases hc : cap = 1
  · rw [if_pos hc]
    obtain ⟨a, cap', e, hlc, hm, hlen, hsz, hnil, hN⟩ := h.out
    cases e
    have hd : L.drop 1 = [] := List.drop_eq_nil_of_le (by omega)
    rw [hd]
    exact ⟨some ⟨g, o, none⟩, cap - 1, by rw [show L.length - 1 = 0 by omega]; rfl, by simp, by subst hc; simp, by simp, by simp, (fun h => by cases h), .inl ⟨rfl, rfl⟩⟩
  · rw [if_neg hc]
    exact tx_drop h 1 hp
theorem perm_srt_le {L : List ByteArray} (h : L.length < 2) : Srt L := by
  intro i j h1 h2 hij
  have : i = j := by omega
  subst this
  rw [le_iff]; exact .inr rfl
def SortIs (N : Nat) : Prop := ∀ (v : Value) (L : List ByteArray) (w : World), L.length ≤ N → Tx false All w v L →
    Calls Tryd.prog 73 #[v] w fun e w' => ∃ u L', e = .returned u ∧ Tx false All w' u L' ∧ L'.Perm L ∧ Srt L' ∧ Below w.heap.size w w'
theorem small (v : Value) (L : List ByteArray) (w : World) (h : Tx false All w v L) (h2 : L.length < 2) :
    Calls Tryd.prog 73 #[v] w fun e w' => ∃ u L', e = .returned u ∧ Tx false All w' u L' ∧ L'.Perm L ∧ Srt L' ∧ Below w.heap.size w w' := by
  obtain ⟨i0, hi, hz0, hz1, hz2⟩ := info_parts info9
  obtain ⟨a, cap, rfl, hlc, hm, hlen, hsz, hnil, hN⟩ := h.out
  have ho : OwnT (w.alloc (.cells #[] 9)) w.heap.size (.slice (some ⟨w.heap.size, 0, none⟩) 0 0) [] := by
    refine ⟨rfl, .inr ⟨w.heap.size, 0, #[], rfl, Nat.le_refl _, heap_alloc_new w _, Nat.le_refl _, by simp [maxLen], rfl, rfl⟩⟩
  have hb : Below w.heap.size w (w.alloc (.cells #[] 9)) := (Below.refl _ w).alloc (Nat.le_refl _) _
  have h2' : decide ((L.length : Int) < 2) = true := decide_eq_true (by omega)
  have hsrt := perm_srt_le h2
  cases a with
  | none =>
    obtain rfl := hnil rfl
    obtain rfl : L = [] := List.eq_nil_of_length_eq_zero (by omega)
    go_enter Tryd.func73, Tryd.ntmps73
    go_wp2_with fail
    go_ret
    exact ⟨_, rfl, [], own_tx ho (by simp) (by simp), .refl _, hsrt, hb⟩
  | some x =>
    obtain ⟨g, o, sp⟩ := x
    have hnews : ∀ j u, (L.map Value.string)[j]? = some u → (w.alloc (.cells #[] 9)).cell? ((⟨g, o, sp⟩ : Addr).add j) = some u := by
      intro j u hj
      have hl : j < L.length := by
        have := (List.getElem?_eq_some_iff.1 hj).1
        simpa using this
      obtain ⟨g', o', e, -, hc⟩ := name_at hN hl
      cases e
      rw [add_none]
      have hj' : u = .string L[j] := by simpa [hl] using hj.symm
      rw [hj']
      exact below_cell hc hb
    clear hN h
    go_enter Tryd.func73, Tryd.ntmps73
    go_wp2_with (first
      | (at_builtin; refine wpList_append_own _ rfl _ _ 22 rfl w.heap.size 9 i0 (.string ⟨#[]⟩) 1 16 Tryd.underlying22 hi hz0 hz1 hz2 rfl (by decide) _ _ _ rfl ho ⟨g, o, sp⟩ L.length cap (L.map Value.string) rfl (by simp) hnews (one_texts L) (by unfold maxLen; simp; omega) (by simp; omega) (by simp) ?_))
    intro v' w2 hown' hgrow hnn
    have hb3 := hb.grown hgrow (by simp) (fun k hk => by cases hk; exact Nat.le_refl _)
    have ho2 : OwnT w2 w.heap.size v' L := by
      unfold OwnT
      simpa using hown'
    clear hown' hgrow ho hb hnews hnn
    go_wp2_with fail
    go_ret
    exact ⟨_, L, rfl, own_tx ho2 hlen hsz, .refl _, hsrt, hb3⟩
theorem inv_start {LA LB L : List ByteArray} {H : Nat} (pA : LA.Perm (L.take H)) (pB : LB.Perm (L.drop H)) : ([] ++ (LA ++ LB)).Perm L := by
  have := pA.append pB
  rw [List.take_append_drop] at this
  simpa using this
structure Inv (L A B O : List ByteArray) : Prop where
  p : (O ++ (A ++ B)).Perm L
  a : Srt A
  b : Srt B
  o : Srt O
  x : ∀ x ∈ O, ∀ y ∈ A ++ B, le x y = true
theorem srt_tail {x : ByteArray} {A : List ByteArray} (h : Srt (x :: A)) : Srt A := fun i j h1 h2 hij => by
  have := h (i + 1) (j + 1) (by simp; omega) (by simp; omega) (by omega)
  simpa using this
theorem srt_head {x : ByteArray} {A : List ByteArray} (h : Srt (x :: A)) : ∀ y ∈ A, le x y = true := fun y hy => by
  obtain ⟨i, hi, rfl⟩ := List.mem_iff_getElem.1 hy
  have := h 0 (i + 1) (by simp) (by simp; omega) (by omega)
  simpa using this
theorem srt_snoc {x : ByteArray} {O : List ByteArray} (h : Srt O) (hx : ∀ y ∈ O, le y x = true) : Srt (O ++ [x]) := fun i j h1 h2 hij => by
  have hl : (O ++ [x]).length = O.length + 1 := by simp
  by_cases hj : j < O.length
  · rw [List.getElem_append_left (by omega), List.getElem_append_left hj]
    exact h i j (by omega) hj hij
  · have e : j = O.length := by omega
    subst e
    by_cases hi : i < O.length
    · rw [List.getElem_append_left hi, List.getElem_append_right (by omega)]
      simpa using hx _ (List.getElem_mem hi)
    · have e : i = O.length := by omega
      subst e
      rw [le_iff]; exact .inr rfl
theorem Inv.left {L A B O : List ByteArray} {x : ByteArray} (h : Inv L (x :: A) B O) (hx : ∀ y ∈ B, le x y = true) : Inv L A B (O ++ [x]) := by
  refine ⟨by simpa using h.p, srt_tail h.a, h.b, srt_snoc h.o fun y hy => h.x y hy x (by simp), fun z hz y hy => ?_⟩
  rcases List.mem_append.1 hz with hz | hz
  · exact h.x z hz y (by simp at hy ⊢; exact .inr hy)
  · obtain rfl : z = x := by simpa using hz
    rcases List.mem_append.1 hy with hy | hy
    · exact srt_head h.a y hy
    · exact hx y hy
theorem Inv.right {L A B O : List ByteArray} {x : ByteArray} (h : Inv L A (x :: B) O) (hx : ∀ y ∈ A, le x y = true) : Inv L A B (O ++ [x]) := by
  refine ⟨?_, h.a, srt_tail h.b, srt_snoc h.o fun y hy => h.x y hy x (by simp), fun z hz y hy => ?_⟩
  · refine List.Perm.trans ?_ h.p
    rw [List.append_assoc]
    refine List.Perm.append_left _ ?_
    exact (List.perm_middle (a := x) (l₁ := A) (l₂ := B)).symm
  rcases List.mem_append.1 hz with hz | hz
  · exact h.x z hz y (by simp at hy ⊢; rcases hy with hy | hy <;> simp [hy])
  · obtain rfl : z = x := by simpa using hz
    rcases List.mem_append.1 hy with hy | hy
    · exact hx y hy
    · exact srt_head h.b y hy
def sl : Value → Nat
  | .slice _ n _ => n
  | _ => 0
set_option maxRecDepth 20000 in
set_option maxHeartbeats 1600000 in
theorem large (N : Nat) (hN : SortIs N) (v : Value) (L : List ByteArray) (w : World) (h : Tx false All w v L) (h2 : ¬ L.length < 2) (h3 : L.length ≤ N + 1) :
    Calls Tryd.prog 73 #[v] w fun e w' => ∃ u L', e = .returned u ∧ Tx false All w' u L' ∧ L'.Perm L ∧ Srt L' ∧ Below w.heap.size w w' := by
  obtain ⟨a, cap, rfl, hlc, hm, hlen, hsz, hnil, hNn⟩ := h.out
  have h2' : decide ((L.length : Int) < 2) = false := decide_eq_false (by omega)
  obtain ⟨g, o, rfl, -⟩ := name_at hNn (q := 0) (by omega)
  obtain ⟨H, hH⟩ : ∃ H, L.length / 2 = H := ⟨_, rfl⟩
  have c1 := hN _ (L.take H) w (by simp; omega) (tx_take h H (by omega))
  have C2 : Hid (∀ w', Below w.heap.size w w' → Calls Tryd.prog 73 #[.slice (some ⟨g, o + H, none⟩) (L.length - H) (cap - H)] w' fun e w2 => ∃ u L', e = .returned u ∧ Tx false All w2 u L' ∧ L'.Perm (L.drop H) ∧ Srt L' ∧ Below w'.heap.size w' w2) := fun w' hb => hN _ (L.drop H) w' (by simp; omega) ((tx_drop h H (by omega)).below hb)
  have hq : (L.length : Int).tdiv 2 = (H : Int) := by rw [Int.tdiv_eq_ediv_of_nonneg (by omega)]; omega
  have hH1 : H ≤ L.length := by omega
  have hH2 : 1 ≤ H := by omega
  have hH3 : H < L.length := by omega
  clear hH hNn hN
  go_enter Tryd.func73, Tryd.ntmps73
  go_wp2_with fail
  refine c1.mono ?_
  rintro e w1 ⟨ua, LA, rfl, hA, pA, sA, b1⟩
  have c2 := C2.out w1 b1
  go_wp2_with fail
  refine c2.mono ?_
  rintro e w2 ⟨ub, LB, rfl, hB, pB, sB, b2⟩
  have hA2 := hA.below b2
  clear c1 c2 C2
  go_wp2_with fail
  obtain ⟨i0, hi, hz0, hz1, hz2⟩ := info_parts info9
  have hI0 : Hid (Inv L LA LB []) := ⟨inv_start pA pB, sA, sB, fun i j h1 => by simp at h1, fun x hx => by simp at hx⟩
  have hlen' : Hid (∀ O : List ByteArray, O.Perm L → O.length * 16 ≤ 140737488351232 ∧ ∀ t ∈ O, t.size ≤ 140737488351232) := fun O hp => ⟨by rw [hp.length_eq]; exact hlen, fun t ht => hsz t (hp.mem_iff.1 ht)⟩
  have B02 : Below w.heap.size w w2 := nx b1 b2
  clear hA pA sA pB sB b1 b2 h hsz h2' hq
  go_loopw [3, 4, 5] (fun a b o' wr => ∃ A B O, Tx false All w2 a A ∧ Tx false All w2 b B ∧ OwnT wr w2.heap.size o' O ∧ Below w2.heap.size w2 wr ∧ Hid (Inv L A B O)) (fun a b _ _ => sl a + sl b)
  case atStart => exact ⟨LA, LB, [], hA2, hB, ⟨rfl, .inl ⟨rfl, rfl⟩⟩, Below.refl _ _, hI0⟩
  case round =>
    obtain ⟨A, B, O, hA, hB, hO, hbr, hI⟩ := hrel
    clear hI0 hA2
    obtain ⟨aa, ca, rfl, alc, acm, alen, asz, anil, aN⟩ := hA.out
    obtain ⟨ab, cb, rfl, blc, bcm, blen, bsz, bnil, bN⟩ := hB.out
    have hOl : O.length + (A.length + B.length) = L.length := by
      have := hI.out.p.length_eq
      simpa using this
    have hol : O.length * 16 + 16 ≤ 140737488351248 := by omega
    have hIe : Hid (O.length + (A.length + B.length) = L.length) := hOl
    clear hOl
    by_cases hA0 : A = []
    · subst hA0
      by_cases hB0 : B = []
      · subst hB0
        have hp : O.Perm L := by simpa using hI.out.p
        have HP : Hid (O.Perm L) := hp
        clear hp aN bN
        simp only [List.length_nil]
        go_wp2_with fail
        go_ret
        exact ⟨_, O, rfl, own_tx hO (hlen'.out O HP.out).1 (hlen'.out O HP.out).2, HP.out, hI.out.o, nx B02 hbr⟩
      · have hpb : 0 < B.length := List.length_pos_iff.2 hB0
        obtain ⟨gb, ob, rfl, -, yc⟩ := name_at bN hpb
        rw [Nat.add_zero] at yc
        obtain ⟨y, hy⟩ : ∃ y, B[0] = y := ⟨_, rfl⟩
        rw [hy] at yc
        have hBe : B = y :: B.drop 1 := by rw [← hy]; exact (List.drop_eq_getElem_cons hpb).symm ▸ rfl
        have HI : Hid (Inv L [] (y :: B.drop 1) O) := by rw [← hBe]; exact hI
        have hpb' : ((B.length : Int) == 0) = false := by simp [hB0]
        clear aN bN hB0 hBe hI hy
        simp only [List.length_nil]
        go_wp2_with fail
        refine wp_region_held_drew (S := fun _ => True) (by kernel_rfl) ?_ (fun hHeld => ?_)
        · exact trivial
        refine wpAnyH_take (i := 0) (v := ?_) rfl (by kernel_rfl) (by kernel_rfl) (by kernel_rfl) (fun _ _ _ h => h) (Or.inl ⟨by rfl, ?_⟩) (by assumption) ?_
        rotate_left 1
        · intro w hSw; (try dsimp only at hSw); go_simp; first | done | with_reducible rfl
        try simp only [Act.put, List.getElem_toArray, List.getElem_cons_zero, List.setIfInBounds_toArray, List.set_cons_zero, List.set_cons_succ]
        refine wpAnyH_take (i := 1) (v := ?_) rfl (by kernel_rfl) (by kernel_rfl) (by kernel_rfl) (fun _ _ _ h => h) (Or.inl ⟨by rfl, ?_⟩) (by assumption) ?_
        rotate_left 1
        · intro w hSw; (try dsimp only at hSw); go_simp; first | done | with_reducible rfl
        try simp only [Act.put, List.getElem_toArray, List.getElem_cons_zero, List.getElem_cons_succ, List.setIfInBounds_toArray, List.set_cons_zero, List.set_cons_succ]
        refine wpAnyH_take (i := 2) (v := ?_) rfl (by kernel_rfl) (by kernel_rfl) (by kernel_rfl) (fun _ _ _ h => h) (Or.inl ⟨by rfl, ?_⟩) (by assumption) ?_
        rotate_left 1
        · intro w hSw; (try dsimp only at hSw); go_simp; first | done | with_reducible rfl
        try simp only [Act.put, List.getElem_toArray, List.getElem_cons_zero, List.getElem_cons_succ, List.setIfInBounds_toArray, List.set_cons_zero, List.set_cons_succ]
        refine wpAnyH_take (i := 3) (v := ?_) rfl (by kernel_rfl) (by kernel_rfl) (by kernel_rfl) (fun _ _ _ h => h) (Or.inl ⟨by rfl, ?_⟩) (by assumption) ?_
        rotate_left 1
        · intro w hSw; (try dsimp only at hSw); go_simp; first | done | with_reducible rfl
        try simp only [Act.put, List.getElem_toArray, List.getElem_cons_zero, List.getElem_cons_succ, List.setIfInBounds_toArray, List.set_cons_zero, List.set_cons_succ]
        refine wpAnyH_take (i := 4) (v := ?_) rfl (by kernel_rfl) (by kernel_rfl) (by kernel_rfl) (fun _ _ _ h => h) (Or.inl ⟨by rfl, ?_⟩) (by assumption) ?_
        rotate_left 1
        · intro w hSw; (try dsimp only at hSw); go_simp; first | done | with_reducible rfl
        try simp only [Act.put, List.getElem_toArray, List.getElem_cons_zero, List.getElem_cons_succ, List.setIfInBounds_toArray, List.set_cons_zero, List.set_cons_succ]
        refine wpAnyH_take (i := 5) (v := ?_) rfl (by kernel_rfl) (by kernel_rfl) (by kernel_rfl) (fun _ _ _ h => h) (Or.inl ⟨by rfl, ?_⟩) (by assumption) ?_
        rotate_left 1
        · intro w hSw; (try dsimp only at hSw); go_simp; first | done | with_reducible rfl
        try simp only [Act.put, List.getElem_toArray, List.getElem_cons_zero, List.getElem_cons_succ, List.setIfInBounds_toArray, List.set_cons_zero, List.set_cons_succ]
        refine wpAnyH_take (i := 6) (v := ?_) rfl (by kernel_rfl) (by kernel_rfl) (by kernel_rfl) (fun _ _ _ h => h) (Or.inl ⟨by rfl, ?_⟩) (by assumption) ?_
        rotate_left 1
        · intro w hSw; (try dsimp only at hSw); go_simp; first | done | with_reducible rfl
        try simp only [Act.put, List.getElem_toArray, List.getElem_cons_zero, List.getElem_cons_succ, List.setIfInBounds_toArray, List.set_cons_zero, List.set_cons_succ]
        refine wpAnyH_take (i := 7) (v := ?_) rfl (by kernel_rfl) (by kernel_rfl) (by kernel_rfl) (fun _ _ _ h => h) (Or.inl ⟨by rfl, ?_⟩) (by assumption) ?_
        rotate_left 1
        · intro w hSw; (try dsimp only at hSw); go_simp; first | done | with_reducible rfl
        try simp only [Act.put, List.getElem_toArray, List.getElem_cons_zero, List.getElem_cons_succ, List.setIfInBounds_toArray, List.set_cons_zero, List.set_cons_succ]
        refine wpAnyH_take (i := 8) rfl (by kernel_rfl) (by kernel_rfl) (by kernel_rfl) (fun _ _ _ h => h) (Or.inr ⟨by rfl, rfl⟩) (by assumption) ?_
        try simp only [Act.put, List.getElem_toArray, List.getElem_cons_zero, List.getElem_cons_succ, List.setIfInBounds_toArray, List.set_cons_zero, List.set_cons_succ]
        refine wpAnyH_take (i := 9) rfl (by kernel_rfl) (by kernel_rfl) (by kernel_rfl) (fun _ _ _ h => h) (Or.inr ⟨by rfl, rfl⟩) (by assumption) ?_
        try simp only [Act.put, List.getElem_toArray, List.getElem_cons_zero, List.getElem_cons_succ, List.setIfInBounds_toArray, List.set_cons_zero, List.set_cons_succ]
        refine wpAnyH_take (i := 10) rfl (by kernel_rfl) (by kernel_rfl) (by kernel_rfl) (fun _ _ _ h => h) (Or.inr ⟨by rfl, rfl⟩) (by assumption) ?_
        try simp only [Act.put, List.getElem_toArray, List.getElem_cons_zero, List.getElem_cons_succ, List.setIfInBounds_toArray, List.set_cons_zero, List.set_cons_succ]
        refine wpAnyH_take (i := 11) rfl (by kernel_rfl) (by kernel_rfl) (by kernel_rfl) (fun _ _ _ h => h) (Or.inr ⟨by rfl, rfl⟩) (by assumption) ?_
        try simp only [Act.put, List.getElem_toArray, List.getElem_cons_zero, List.getElem_cons_succ, List.setIfInBounds_toArray, List.set_cons_zero, List.set_cons_succ]
        refine wpAnyH_take (i := 12) rfl (by kernel_rfl) (by kernel_rfl) (by kernel_rfl) (fun _ _ _ h => h) (Or.inr ⟨by rfl, rfl⟩) (by assumption) ?_
        try simp only [Act.put, List.getElem_toArray, List.getElem_cons_zero, List.getElem_cons_succ, List.setIfInBounds_toArray, List.set_cons_zero, List.set_cons_succ]
        refine wpAnyH_take (i := 13) rfl (by kernel_rfl) (by kernel_rfl) (by kernel_rfl) (fun _ _ _ h => h) (Or.inr ⟨by rfl, rfl⟩) (by assumption) ?_
        try simp only [Act.put, List.getElem_toArray, List.getElem_cons_zero, List.getElem_cons_succ, List.setIfInBounds_toArray, List.set_cons_zero, List.set_cons_succ]
        refine wpAnyH_take (i := 14) rfl (by kernel_rfl) (by kernel_rfl) (by kernel_rfl) (fun _ _ _ h => h) (Or.inr ⟨by rfl, rfl⟩) (by assumption) ?_
        try simp only [Act.put, List.getElem_toArray, List.getElem_cons_zero, List.getElem_cons_succ, List.setIfInBounds_toArray, List.set_cons_zero, List.set_cons_succ]
        refine wpAnyH_take (i := 15) (v := ?_) rfl (by kernel_rfl) (by kernel_rfl) (by kernel_rfl) (fun _ _ _ h => h) (Or.inl ⟨by rfl, ?_⟩) (by assumption) ?_
        rotate_left 1
        · intro w hSw; (try dsimp only at hSw); go_simp; first | done | with_reducible rfl
        try simp only [Act.put, List.getElem_toArray, List.getElem_cons_zero, List.getElem_cons_succ, List.setIfInBounds_toArray, List.set_cons_zero, List.set_cons_succ]
        refine wpAnyH_take (i := 16) (v := ?_) rfl (by kernel_rfl) (by kernel_rfl) (by kernel_rfl) (fun _ _ _ h => h) (Or.inl ⟨by rfl, ?_⟩) (by assumption) ?_
        rotate_left 1
        · intro w hSw; (try dsimp only at hSw); go_simp; first | done | with_reducible rfl
        try simp only [Act.put, List.getElem_toArray, List.getElem_cons_zero, List.getElem_cons_succ, List.setIfInBounds_toArray, List.set_cons_zero, List.set_cons_succ]
        refine wpAnyH_done (by kernel_rfl) ?_ _
        clear hHeld
        obtain ⟨Wd, hWd⟩ : ∃ W, wr.drew = W := ⟨_, rfl⟩
        rw [hWd]
        have hOd : OwnT Wd w2.heap.size u5 O := by rw [← hWd]; exact hO
        have hbd : Below w2.heap.size w2 Wd := by rw [← hWd]; exact hbr.drew
        have hcd := below_cell yc hbd
        have hI3 : Hid (Inv L [] (B.drop 1) (O ++ [y])) := HI.out.right (fun z hz => by cases hz)
        clear hO hbr hWd
        have hsd := hbd.size
        go_wp2_with (first
          | (at_builtin; refine wpList_append_own _ rfl _ _ 22 rfl w2.heap.size 9 i0 (.string ⟨#[]⟩) 1 16 Tryd.underlying22 hi hz0 hz1 hz2 rfl (by decide) _ _ _ rfl (World.ownsRow.alloc hOd _) ⟨Wd.heap.size, 0, none⟩ 1 1 ([y].map Value.string) rfl rfl (new_cells Wd _ 9) (one_texts _) (by unfold maxLen; omega) (by omega) (by simp; omega) ?_))
        intro v' w3 hown' hgrow hnn
        have hb3 := (hbd.alloc hsd (.cells #[.string y] 9)).grown hgrow (by simp; omega) (fun k hk => (World.ownsRow.lt hOd k hk).1)
        have ho3 : OwnT w3 w2.heap.size v' (O ++ [y]) := by
          unfold OwnT
          rw [List.map_append, List.length_append]
          exact hown'
        clear hown' hgrow hnn hOd
        go_wp2_with fail
        go_roundw
        case rel => exact ⟨[], B.drop 1, O ++ [y], hA, tx_next hB hpb, ho3, hb3, hI3⟩
        case measure => simp only [sl]; omega
    · have hpa : 0 < A.length := List.length_pos_iff.2 hA0
      obtain ⟨ga, oa, rfl, -, xc⟩ := name_at aN hpa
      rw [Nat.add_zero] at xc
      obtain ⟨x, hx⟩ : ∃ x, A[0] = x := ⟨_, rfl⟩
      rw [hx] at xc
      have hAe : A = x :: A.drop 1 := by rw [← hx]; exact (List.drop_eq_getElem_cons hpa).symm ▸ rfl
      by_cases hB0 : B = []
      · subst hB0
        have HI : Hid (Inv L (x :: A.drop 1) [] O) := by rw [← hAe]; exact hI
        clear aN bN hA0 hAe hI hx
        simp only [List.length_nil]
        go_wp2_with fail
        refine wp_region_held_drew (S := fun _ => True) (by kernel_rfl) ?_ (fun hHeld => ?_)
        · exact trivial
        refine wpAnyH_take (i := 0) (v := ?_) rfl (by kernel_rfl) (by kernel_rfl) (by kernel_rfl) (fun _ _ _ h => h) (Or.inl ⟨by rfl, ?_⟩) (by assumption) ?_
        rotate_left 1
        · intro w hSw; (try dsimp only at hSw); go_simp; first | done | with_reducible rfl
        try simp only [Act.put, List.getElem_toArray, List.getElem_cons_zero, List.setIfInBounds_toArray, List.set_cons_zero, List.set_cons_succ]
        refine wpAnyH_take (i := 1) (v := ?_) rfl (by kernel_rfl) (by kernel_rfl) (by kernel_rfl) (fun _ _ _ h => h) (Or.inl ⟨by rfl, ?_⟩) (by assumption) ?_
        rotate_left 1
        · intro w hSw; (try dsimp only at hSw); go_simp; first | done | with_reducible rfl
        try simp only [Act.put, List.getElem_toArray, List.getElem_cons_zero, List.getElem_cons_succ, List.setIfInBounds_toArray, List.set_cons_zero, List.set_cons_succ]
        refine wpAnyH_take (i := 2) (v := ?_) rfl (by kernel_rfl) (by kernel_rfl) (by kernel_rfl) (fun _ _ _ h => h) (Or.inl ⟨by rfl, ?_⟩) (by assumption) ?_
        rotate_left 1
        · intro w hSw; (try dsimp only at hSw); go_simp; first | done | with_reducible rfl
        try simp only [Act.put, List.getElem_toArray, List.getElem_cons_zero, List.getElem_cons_succ, List.setIfInBounds_toArray, List.set_cons_zero, List.set_cons_succ]
        refine wpAnyH_take (i := 3) (v := ?_) rfl (by kernel_rfl) (by kernel_rfl) (by kernel_rfl) (fun _ _ _ h => h) (Or.inl ⟨by rfl, ?_⟩) (by assumption) ?_
        rotate_left 1
        · intro w hSw; (try dsimp only at hSw); go_simp; first | done | with_reducible rfl
        try simp only [Act.put, List.getElem_toArray, List.getElem_cons_zero, List.getElem_cons_succ, List.setIfInBounds_toArray, List.set_cons_zero, List.set_cons_succ]
        refine wpAnyH_take (i := 4) rfl (by kernel_rfl) (by kernel_rfl) (by kernel_rfl) (fun _ _ _ h => h) (Or.inr ⟨by rfl, rfl⟩) (by assumption) ?_
        try simp only [Act.put, List.getElem_toArray, List.getElem_cons_zero, List.getElem_cons_succ, List.setIfInBounds_toArray, List.set_cons_zero, List.set_cons_succ]
        refine wpAnyH_take (i := 5) rfl (by kernel_rfl) (by kernel_rfl) (by kernel_rfl) (fun _ _ _ h => h) (Or.inr ⟨by rfl, rfl⟩) (by assumption) ?_
        try simp only [Act.put, List.getElem_toArray, List.getElem_cons_zero, List.getElem_cons_succ, List.setIfInBounds_toArray, List.set_cons_zero, List.set_cons_succ]
        refine wpAnyH_take (i := 6) rfl (by kernel_rfl) (by kernel_rfl) (by kernel_rfl) (fun _ _ _ h => h) (Or.inr ⟨by rfl, rfl⟩) (by assumption) ?_
        try simp only [Act.put, List.getElem_toArray, List.getElem_cons_zero, List.getElem_cons_succ, List.setIfInBounds_toArray, List.set_cons_zero, List.set_cons_succ]
        refine wpAnyH_take (i := 7) rfl (by kernel_rfl) (by kernel_rfl) (by kernel_rfl) (fun _ _ _ h => h) (Or.inr ⟨by rfl, rfl⟩) (by assumption) ?_
        try simp only [Act.put, List.getElem_toArray, List.getElem_cons_zero, List.getElem_cons_succ, List.setIfInBounds_toArray, List.set_cons_zero, List.set_cons_succ]
        refine wpAnyH_take (i := 8) rfl (by kernel_rfl) (by kernel_rfl) (by kernel_rfl) (fun _ _ _ h => h) (Or.inr ⟨by rfl, rfl⟩) (by assumption) ?_
        try simp only [Act.put, List.getElem_toArray, List.getElem_cons_zero, List.getElem_cons_succ, List.setIfInBounds_toArray, List.set_cons_zero, List.set_cons_succ]
        refine wpAnyH_take (i := 9) rfl (by kernel_rfl) (by kernel_rfl) (by kernel_rfl) (fun _ _ _ h => h) (Or.inr ⟨by rfl, rfl⟩) (by assumption) ?_
        try simp only [Act.put, List.getElem_toArray, List.getElem_cons_zero, List.getElem_cons_succ, List.setIfInBounds_toArray, List.set_cons_zero, List.set_cons_succ]
        refine wpAnyH_take (i := 10) rfl (by kernel_rfl) (by kernel_rfl) (by kernel_rfl) (fun _ _ _ h => h) (Or.inr ⟨by rfl, rfl⟩) (by assumption) ?_
        try simp only [Act.put, List.getElem_toArray, List.getElem_cons_zero, List.getElem_cons_succ, List.setIfInBounds_toArray, List.set_cons_zero, List.set_cons_succ]
        refine wpAnyH_take (i := 11) rfl (by kernel_rfl) (by kernel_rfl) (by kernel_rfl) (fun _ _ _ h => h) (Or.inr ⟨by rfl, rfl⟩) (by assumption) ?_
        try simp only [Act.put, List.getElem_toArray, List.getElem_cons_zero, List.getElem_cons_succ, List.setIfInBounds_toArray, List.set_cons_zero, List.set_cons_succ]
        refine wpAnyH_take (i := 12) rfl (by kernel_rfl) (by kernel_rfl) (by kernel_rfl) (fun _ _ _ h => h) (Or.inr ⟨by rfl, rfl⟩) (by assumption) ?_
        try simp only [Act.put, List.getElem_toArray, List.getElem_cons_zero, List.getElem_cons_succ, List.setIfInBounds_toArray, List.set_cons_zero, List.set_cons_succ]
        refine wpAnyH_take (i := 13) rfl (by kernel_rfl) (by kernel_rfl) (by kernel_rfl) (fun _ _ _ h => h) (Or.inr ⟨by rfl, rfl⟩) (by assumption) ?_
        try simp only [Act.put, List.getElem_toArray, List.getElem_cons_zero, List.getElem_cons_succ, List.setIfInBounds_toArray, List.set_cons_zero, List.set_cons_succ]
        refine wpAnyH_take (i := 14) rfl (by kernel_rfl) (by kernel_rfl) (by kernel_rfl) (fun _ _ _ h => h) (Or.inr ⟨by rfl, rfl⟩) (by assumption) ?_
        try simp only [Act.put, List.getElem_toArray, List.getElem_cons_zero, List.getElem_cons_succ, List.setIfInBounds_toArray, List.set_cons_zero, List.set_cons_succ]
        refine wpAnyH_take (i := 15) rfl (by kernel_rfl) (by kernel_rfl) (by kernel_rfl) (fun _ _ _ h => h) (Or.inr ⟨by rfl, rfl⟩) (by assumption) ?_
        try simp only [Act.put, List.getElem_toArray, List.getElem_cons_zero, List.getElem_cons_succ, List.setIfInBounds_toArray, List.set_cons_zero, List.set_cons_succ]
        refine wpAnyH_take (i := 16) (v := ?_) rfl (by kernel_rfl) (by kernel_rfl) (by kernel_rfl) (fun _ _ _ h => h) (Or.inl ⟨by rfl, ?_⟩) (by assumption) ?_
        rotate_left 1
        · intro w hSw; (try dsimp only at hSw); go_simp; first | done | with_reducible rfl
        try simp only [Act.put, List.getElem_toArray, List.getElem_cons_zero, List.getElem_cons_succ, List.setIfInBounds_toArray, List.set_cons_zero, List.set_cons_succ]
        refine wpAnyH_done (by kernel_rfl) ?_ _
        clear hHeld
        obtain ⟨Wd, hWd⟩ : ∃ W, wr.drew = W := ⟨_, rfl⟩
        rw [hWd]
        have hOd : OwnT Wd w2.heap.size u5 O := by rw [← hWd]; exact hO
        have hbd : Below w2.heap.size w2 Wd := by rw [← hWd]; exact hbr.drew
        have hcd := below_cell xc hbd
        have hI3 : Hid (Inv L (A.drop 1) [] (O ++ [x])) := HI.out.left (fun z hz => by cases hz)
        clear hO hbr hWd
        have hsd := hbd.size
        go_wp2_with (first
          | (at_builtin; refine wpList_append_own _ rfl _ _ 22 rfl w2.heap.size 9 i0 (.string ⟨#[]⟩) 1 16 Tryd.underlying22 hi hz0 hz1 hz2 rfl (by decide) _ _ _ rfl (World.ownsRow.alloc hOd _) ⟨Wd.heap.size, 0, none⟩ 1 1 ([x].map Value.string) rfl rfl (new_cells Wd _ 9) (one_texts _) (by unfold maxLen; omega) (by omega) (by simp; omega) ?_))
        intro v' w3 hown' hgrow hnn
        have hb3 := (hbd.alloc hsd (.cells #[.string x] 9)).grown hgrow (by simp; omega) (fun k hk => (World.ownsRow.lt hOd k hk).1)
        have ho3 : OwnT w3 w2.heap.size v' (O ++ [x]) := by
          unfold OwnT
          rw [List.map_append, List.length_append]
          exact hown'
        clear hown' hgrow hnn hOd
        go_wp2_with fail
        go_roundw
        case rel => exact ⟨A.drop 1, [], O ++ [x], tx_next hA hpa, hB, ho3, hb3, hI3⟩
        case measure => simp only [sl]; omega
      · have hpb : 0 < B.length := List.length_pos_iff.2 hB0
        obtain ⟨gb, ob, rfl, -, yc⟩ := name_at bN hpb
        rw [Nat.add_zero] at yc
        obtain ⟨y, hy⟩ : ∃ y, B[0] = y := ⟨_, rfl⟩
        rw [hy] at yc
        have hBe : B = y :: B.drop 1 := by rw [← hy]; exact (List.drop_eq_getElem_cons hpb).symm ▸ rfl
        have HI : Hid (Inv L (x :: A.drop 1) (y :: B.drop 1) O) := by rw [← hBe, ← hAe]; exact hI
        have HBs : Hid (B = y :: B.drop 1) := hBe
        have HAs : Hid (A = x :: A.drop 1) := hAe
        have hpb' : ((B.length : Int) == 0) = false := by simp [hB0]
        have hpa' : decide ((0 : Int) < (A.length : Int)) = true := by simp; omega
        clear aN bN hB0 hA0 hBe hAe hI hy hx
        have xr := below_cell xc hbr.drew
        have yr := below_cell yc hbr.drew
        cases hle : le x y with
        | true =>
          have hle' : (Op.bytesLess x.toList y.toList || x.toList == y.toList) = true := hle
          go_wp2_with fail
          refine wp_region_held_drew (S := fun w' => w'.cell? ⟨ga, oa, none⟩ = some (.string x) ∧ w'.cell? ⟨gb, ob, none⟩ = some (.string y)) (by kernel_rfl) ?_ (fun hHeld => ?_)
          · exact ⟨xr, yr⟩
          refine wpAnyH_take (i := 0) (v := ?_) rfl (by kernel_rfl) (by kernel_rfl) (by kernel_rfl) (fun _ _ _ h => h) (Or.inl ⟨by rfl, ?_⟩) (by assumption) ?_
          rotate_left 1
          · intro w hSw; (try dsimp only at hSw); go_simp; first | done | with_reducible rfl
          try simp only [Act.put, List.getElem_toArray, List.getElem_cons_zero, List.setIfInBounds_toArray, List.set_cons_zero, List.set_cons_succ]
          refine wpAnyH_take (i := 1) (v := ?_) rfl (by kernel_rfl) (by kernel_rfl) (by kernel_rfl) (fun _ _ _ h => h) (Or.inl ⟨by rfl, ?_⟩) (by assumption) ?_
          rotate_left 1
          · intro w hSw; (try dsimp only at hSw); go_simp; first | done | with_reducible rfl
          try simp only [Act.put, List.getElem_toArray, List.getElem_cons_zero, List.getElem_cons_succ, List.setIfInBounds_toArray, List.set_cons_zero, List.set_cons_succ]
          refine wpAnyH_take (i := 2) (v := ?_) rfl (by kernel_rfl) (by kernel_rfl) (by kernel_rfl) (fun _ _ _ h => h) (Or.inl ⟨by rfl, ?_⟩) (by assumption) ?_
          rotate_left 1
          · intro w hSw; (try dsimp only at hSw); go_simp; first | done | with_reducible rfl
          try simp only [Act.put, List.getElem_toArray, List.getElem_cons_zero, List.getElem_cons_succ, List.setIfInBounds_toArray, List.set_cons_zero, List.set_cons_succ]
          refine wpAnyH_take (i := 3) (v := ?_) rfl (by kernel_rfl) (by kernel_rfl) (by kernel_rfl) (fun _ _ _ h => h) (Or.inl ⟨by rfl, ?_⟩) (by assumption) ?_
          rotate_left 1
          · intro w hSw; (try dsimp only at hSw); go_simp; first | done | with_reducible rfl
          try simp only [Act.put, List.getElem_toArray, List.getElem_cons_zero, List.getElem_cons_succ, List.setIfInBounds_toArray, List.set_cons_zero, List.set_cons_succ]
          refine wpAnyH_take (i := 4) (v := ?_) rfl (by kernel_rfl) (by kernel_rfl) (by kernel_rfl) (fun _ _ _ h => h) (Or.inl ⟨by rfl, ?_⟩) (by assumption) ?_
          rotate_left 1
          · intro w hSw; (try dsimp only at hSw); go_simp; first | done | with_reducible rfl
          try simp only [Act.put, List.getElem_toArray, List.getElem_cons_zero, List.getElem_cons_succ, List.setIfInBounds_toArray, List.set_cons_zero, List.set_cons_succ]
          refine wpAnyH_take (i := 5) (v := ?_) rfl (by kernel_rfl) (by kernel_rfl) (by kernel_rfl) (fun _ _ _ h => h) (Or.inl ⟨by rfl, ?_⟩) (by assumption) ?_
          rotate_left 1
          · intro w hSw; (try dsimp only at hSw); go_simp; first | done | with_reducible rfl
          try simp only [Act.put, List.getElem_toArray, List.getElem_cons_zero, List.getElem_cons_succ, List.setIfInBounds_toArray, List.set_cons_zero, List.set_cons_succ]
          refine wpAnyH_take (i := 6) (v := ?_) rfl (by kernel_rfl) (by kernel_rfl) (by kernel_rfl) (fun _ _ _ h => h) (Or.inl ⟨by rfl, ?_⟩) (by assumption) ?_
          rotate_left 1
          · intro w hSw; (try dsimp only at hSw); go_simp; first | done | with_reducible rfl
          try simp only [Act.put, List.getElem_toArray, List.getElem_cons_zero, List.getElem_cons_succ, List.setIfInBounds_toArray, List.set_cons_zero, List.set_cons_succ]
          refine wpAnyH_take (i := 7) (v := ?_) rfl (by kernel_rfl) (by kernel_rfl) (by kernel_rfl) (fun _ _ _ h => h) (Or.inl ⟨by rfl, ?_⟩) (by assumption) ?_
          rotate_left 1
          · intro w hSw; (try dsimp only at hSw); go_simp; first | done | with_reducible rfl
          try simp only [Act.put, List.getElem_toArray, List.getElem_cons_zero, List.getElem_cons_succ, List.setIfInBounds_toArray, List.set_cons_zero, List.set_cons_succ]
          refine wpAnyH_take (i := 8) (v := ?_) rfl (by kernel_rfl) (by kernel_rfl) (by kernel_rfl) (fun _ _ _ h => h) (Or.inl ⟨by rfl, ?_⟩) (by assumption) ?_
          rotate_left 1
          · intro w hSw; (try dsimp only at hSw); go_simp; first | done | with_reducible rfl
          try simp only [Act.put, List.getElem_toArray, List.getElem_cons_zero, List.getElem_cons_succ, List.setIfInBounds_toArray, List.set_cons_zero, List.set_cons_succ]
          refine wpAnyH_take (i := 9) (v := ?_) rfl (by kernel_rfl) (by kernel_rfl) (by kernel_rfl) (fun _ _ _ h => h) (Or.inl ⟨by rfl, ?_⟩) (by assumption) ?_
          rotate_left 1
          · intro w hSw; (try dsimp only at hSw); go_simp; first | done | with_reducible rfl
          try simp only [Act.put, List.getElem_toArray, List.getElem_cons_zero, List.getElem_cons_succ, List.setIfInBounds_toArray, List.set_cons_zero, List.set_cons_succ]
          refine wpAnyH_take (i := 10) (v := ?_) rfl (by kernel_rfl) (by kernel_rfl) (by kernel_rfl) (fun _ _ _ h => h) (Or.inl ⟨by rfl, ?_⟩) (by assumption) ?_
          rotate_left 1
          · intro w hSw; (try dsimp only at hSw); go_simp; first | done | with_reducible rfl
          try simp only [Act.put, List.getElem_toArray, List.getElem_cons_zero, List.getElem_cons_succ, List.setIfInBounds_toArray, List.set_cons_zero, List.set_cons_succ]
          refine wpAnyH_take (i := 11) (v := ?_) rfl (by kernel_rfl) (by kernel_rfl) (by kernel_rfl) (fun _ _ _ h => h) (Or.inl ⟨by rfl, ?_⟩) (by assumption) ?_
          rotate_left 1
          · intro w hSw; (try dsimp only at hSw); go_simp; first | done | with_reducible rfl
          try simp only [Act.put, List.getElem_toArray, List.getElem_cons_zero, List.getElem_cons_succ, List.setIfInBounds_toArray, List.set_cons_zero, List.set_cons_succ]
          refine wpAnyH_take (i := 12) (v := ?_) rfl (by kernel_rfl) (by kernel_rfl) (by kernel_rfl) (fun _ _ _ h => h) (Or.inl ⟨by rfl, ?_⟩) (by assumption) ?_
          rotate_left 1
          · intro w hSw; (try dsimp only at hSw); go_simp; first | done | with_reducible rfl
          try simp only [Act.put, List.getElem_toArray, List.getElem_cons_zero, List.getElem_cons_succ, List.setIfInBounds_toArray, List.set_cons_zero, List.set_cons_succ]
          refine wpAnyH_take (i := 13) (v := ?_) rfl (by kernel_rfl) (by kernel_rfl) (by kernel_rfl) (fun _ _ _ h => h) (Or.inl ⟨by rfl, ?_⟩) (by assumption) ?_
          rotate_left 1
          · intro w hSw; (try dsimp only at hSw); go_simp; first | done | with_reducible rfl
          try simp only [Act.put, List.getElem_toArray, List.getElem_cons_zero, List.getElem_cons_succ, List.setIfInBounds_toArray, List.set_cons_zero, List.set_cons_succ]
          refine wpAnyH_take (i := 14) (v := ?_) rfl (by kernel_rfl) (by kernel_rfl) (by kernel_rfl) (fun _ _ _ h => h) (Or.inl ⟨by rfl, ?_⟩) (by assumption) ?_
          rotate_left 1
          · intro w hSw; (try dsimp only at hSw); go_simp; first | done | with_reducible rfl
          try simp only [Act.put, List.getElem_toArray, List.getElem_cons_zero, List.getElem_cons_succ, List.setIfInBounds_toArray, List.set_cons_zero, List.set_cons_succ]
          refine wpAnyH_take (i := 15) (v := ?_) rfl (by kernel_rfl) (by kernel_rfl) (by kernel_rfl) (fun _ _ _ h => h) (Or.inl ⟨by rfl, ?_⟩) (by assumption) ?_
          rotate_left 1
          · intro w hSw; (try dsimp only at hSw); go_simp; first | done | with_reducible rfl
          try simp only [Act.put, List.getElem_toArray, List.getElem_cons_zero, List.getElem_cons_succ, List.setIfInBounds_toArray, List.set_cons_zero, List.set_cons_succ]
          refine wpAnyH_take (i := 16) (v := ?_) rfl (by kernel_rfl) (by kernel_rfl) (by kernel_rfl) (fun _ _ _ h => h) (Or.inl ⟨by rfl, ?_⟩) (by assumption) ?_
          rotate_left 1
          · intro w hSw; (try dsimp only at hSw); go_simp; first | done | with_reducible rfl
          try simp only [Act.put, List.getElem_toArray, List.getElem_cons_zero, List.getElem_cons_succ, List.setIfInBounds_toArray, List.set_cons_zero, List.set_cons_succ]
          refine wpAnyH_done (by kernel_rfl) ?_ _
          clear hHeld
          obtain ⟨Wd, hWd⟩ : ∃ W, wr.drew = W := ⟨_, rfl⟩
          rw [hWd]
          have hOd : OwnT Wd w2.heap.size u5 O := by rw [← hWd]; exact hO
          have hbd : Below w2.heap.size w2 Wd := by rw [← hWd]; exact hbr.drew
          have hcd := below_cell xc hbd
          have hI3 : Hid (Inv L (A.drop 1) B (O ++ [x])) := by have h := HI.out; have hb := h.b; exact (show Inv L (x :: A.drop 1) B O by rw [HBs.out]; exact h).left (fun z hz => by rw [HBs.out] at hz; rcases List.mem_cons.1 hz with rfl | hz; exact hle; exact le_trans hle (srt_head hb z hz))
          clear hO hbr hWd
          have hsd := hbd.size
          go_wp2_with (first
            | (at_builtin; refine wpList_append_own _ rfl _ _ 22 rfl w2.heap.size 9 i0 (.string ⟨#[]⟩) 1 16 Tryd.underlying22 hi hz0 hz1 hz2 rfl (by decide) _ _ _ rfl (World.ownsRow.alloc hOd _) ⟨Wd.heap.size, 0, none⟩ 1 1 ([x].map Value.string) rfl rfl (new_cells Wd _ 9) (one_texts _) (by unfold maxLen; omega) (by omega) (by simp; omega) ?_))
          intro v' w3 hown' hgrow hnn
          have hb3 := (hbd.alloc hsd (.cells #[.string x] 9)).grown hgrow (by simp; omega) (fun k hk => (World.ownsRow.lt hOd k hk).1)
          have ho3 : OwnT w3 w2.heap.size v' (O ++ [x]) := by
            unfold OwnT
            rw [List.map_append, List.length_append]
            exact hown'
          clear hown' hgrow hnn hOd
          go_wp2_with fail
          go_roundw
          case rel => exact ⟨A.drop 1, B, O ++ [x], tx_next hA hpa, hB, ho3, hb3, hI3⟩
          case measure => simp only [sl]; omega
        | false =>
          have hle' : (Op.bytesLess x.toList y.toList || x.toList == y.toList) = false := hle
          have hyx : le y x = true := by rcases le_total x y with h | h; rw [hle] at h; cases h; exact h
          go_wp2_with fail
          refine wp_region_held_drew (S := fun w' => w'.cell? ⟨ga, oa, none⟩ = some (.string x) ∧ w'.cell? ⟨gb, ob, none⟩ = some (.string y)) (by kernel_rfl) ?_ (fun hHeld => ?_)
          · exact ⟨xr, yr⟩
          refine wpAnyH_take (i := 0) (v := ?_) rfl (by kernel_rfl) (by kernel_rfl) (by kernel_rfl) (fun _ _ _ h => h) (Or.inl ⟨by rfl, ?_⟩) (by assumption) ?_
          rotate_left 1
          · intro w hSw; (try dsimp only at hSw); go_simp; first | done | with_reducible rfl
          try simp only [Act.put, List.getElem_toArray, List.getElem_cons_zero, List.setIfInBounds_toArray, List.set_cons_zero, List.set_cons_succ]
          refine wpAnyH_take (i := 1) (v := ?_) rfl (by kernel_rfl) (by kernel_rfl) (by kernel_rfl) (fun _ _ _ h => h) (Or.inl ⟨by rfl, ?_⟩) (by assumption) ?_
          rotate_left 1
          · intro w hSw; (try dsimp only at hSw); go_simp; first | done | with_reducible rfl
          try simp only [Act.put, List.getElem_toArray, List.getElem_cons_zero, List.getElem_cons_succ, List.setIfInBounds_toArray, List.set_cons_zero, List.set_cons_succ]
          refine wpAnyH_take (i := 2) (v := ?_) rfl (by kernel_rfl) (by kernel_rfl) (by kernel_rfl) (fun _ _ _ h => h) (Or.inl ⟨by rfl, ?_⟩) (by assumption) ?_
          rotate_left 1
          · intro w hSw; (try dsimp only at hSw); go_simp; first | done | with_reducible rfl
          try simp only [Act.put, List.getElem_toArray, List.getElem_cons_zero, List.getElem_cons_succ, List.setIfInBounds_toArray, List.set_cons_zero, List.set_cons_succ]
          refine wpAnyH_take (i := 3) (v := ?_) rfl (by kernel_rfl) (by kernel_rfl) (by kernel_rfl) (fun _ _ _ h => h) (Or.inl ⟨by rfl, ?_⟩) (by assumption) ?_
          rotate_left 1
          · intro w hSw; (try dsimp only at hSw); go_simp; first | done | with_reducible rfl
          try simp only [Act.put, List.getElem_toArray, List.getElem_cons_zero, List.getElem_cons_succ, List.setIfInBounds_toArray, List.set_cons_zero, List.set_cons_succ]
          refine wpAnyH_take (i := 4) (v := ?_) rfl (by kernel_rfl) (by kernel_rfl) (by kernel_rfl) (fun _ _ _ h => h) (Or.inl ⟨by rfl, ?_⟩) (by assumption) ?_
          rotate_left 1
          · intro w hSw; (try dsimp only at hSw); go_simp; first | done | with_reducible rfl
          try simp only [Act.put, List.getElem_toArray, List.getElem_cons_zero, List.getElem_cons_succ, List.setIfInBounds_toArray, List.set_cons_zero, List.set_cons_succ]
          refine wpAnyH_take (i := 5) (v := ?_) rfl (by kernel_rfl) (by kernel_rfl) (by kernel_rfl) (fun _ _ _ h => h) (Or.inl ⟨by rfl, ?_⟩) (by assumption) ?_
          rotate_left 1
          · intro w hSw; (try dsimp only at hSw); go_simp; first | done | with_reducible rfl
          try simp only [Act.put, List.getElem_toArray, List.getElem_cons_zero, List.getElem_cons_succ, List.setIfInBounds_toArray, List.set_cons_zero, List.set_cons_succ]
          refine wpAnyH_take (i := 6) (v := ?_) rfl (by kernel_rfl) (by kernel_rfl) (by kernel_rfl) (fun _ _ _ h => h) (Or.inl ⟨by rfl, ?_⟩) (by assumption) ?_
          rotate_left 1
          · intro w hSw; (try dsimp only at hSw); go_simp; first | done | with_reducible rfl
          try simp only [Act.put, List.getElem_toArray, List.getElem_cons_zero, List.getElem_cons_succ, List.setIfInBounds_toArray, List.set_cons_zero, List.set_cons_succ]
          refine wpAnyH_take (i := 7) (v := ?_) rfl (by kernel_rfl) (by kernel_rfl) (by kernel_rfl) (fun _ _ _ h => h) (Or.inl ⟨by rfl, ?_⟩) (by assumption) ?_
          rotate_left 1
          · intro w hSw; (try dsimp only at hSw); go_simp; first | done | with_reducible rfl
          try simp only [Act.put, List.getElem_toArray, List.getElem_cons_zero, List.getElem_cons_succ, List.setIfInBounds_toArray, List.set_cons_zero, List.set_cons_succ]
          refine wpAnyH_take (i := 8) (v := ?_) rfl (by kernel_rfl) (by kernel_rfl) (by kernel_rfl) (fun _ _ _ h => h) (Or.inl ⟨by rfl, ?_⟩) (by assumption) ?_
          rotate_left 1
          · intro w hSw; (try dsimp only at hSw); go_simp; first | done | with_reducible rfl
          try simp only [Act.put, List.getElem_toArray, List.getElem_cons_zero, List.getElem_cons_succ, List.setIfInBounds_toArray, List.set_cons_zero, List.set_cons_succ]
          refine wpAnyH_take (i := 9) (v := ?_) rfl (by kernel_rfl) (by kernel_rfl) (by kernel_rfl) (fun _ _ _ h => h) (Or.inl ⟨by rfl, ?_⟩) (by assumption) ?_
          rotate_left 1
          · intro w hSw; (try dsimp only at hSw); go_simp; first | done | with_reducible rfl
          try simp only [Act.put, List.getElem_toArray, List.getElem_cons_zero, List.getElem_cons_succ, List.setIfInBounds_toArray, List.set_cons_zero, List.set_cons_succ]
          refine wpAnyH_take (i := 10) (v := ?_) rfl (by kernel_rfl) (by kernel_rfl) (by kernel_rfl) (fun _ _ _ h => h) (Or.inl ⟨by rfl, ?_⟩) (by assumption) ?_
          rotate_left 1
          · intro w hSw; (try dsimp only at hSw); go_simp; first | done | with_reducible rfl
          try simp only [Act.put, List.getElem_toArray, List.getElem_cons_zero, List.getElem_cons_succ, List.setIfInBounds_toArray, List.set_cons_zero, List.set_cons_succ]
          refine wpAnyH_take (i := 11) (v := ?_) rfl (by kernel_rfl) (by kernel_rfl) (by kernel_rfl) (fun _ _ _ h => h) (Or.inl ⟨by rfl, ?_⟩) (by assumption) ?_
          rotate_left 1
          · intro w hSw; (try dsimp only at hSw); go_simp; first | done | with_reducible rfl
          try simp only [Act.put, List.getElem_toArray, List.getElem_cons_zero, List.getElem_cons_succ, List.setIfInBounds_toArray, List.set_cons_zero, List.set_cons_succ]
          refine wpAnyH_take (i := 12) (v := ?_) rfl (by kernel_rfl) (by kernel_rfl) (by kernel_rfl) (fun _ _ _ h => h) (Or.inl ⟨by rfl, ?_⟩) (by assumption) ?_
          rotate_left 1
          · intro w hSw; (try dsimp only at hSw); go_simp; first | done | with_reducible rfl
          try simp only [Act.put, List.getElem_toArray, List.getElem_cons_zero, List.getElem_cons_succ, List.setIfInBounds_toArray, List.set_cons_zero, List.set_cons_succ]
          refine wpAnyH_take (i := 13) (v := ?_) rfl (by kernel_rfl) (by kernel_rfl) (by kernel_rfl) (fun _ _ _ h => h) (Or.inl ⟨by rfl, ?_⟩) (by assumption) ?_
          rotate_left 1
          · intro w hSw; (try dsimp only at hSw); go_simp; first | done | with_reducible rfl
          try simp only [Act.put, List.getElem_toArray, List.getElem_cons_zero, List.getElem_cons_succ, List.setIfInBounds_toArray, List.set_cons_zero, List.set_cons_succ]
          refine wpAnyH_take (i := 14) (v := ?_) rfl (by kernel_rfl) (by kernel_rfl) (by kernel_rfl) (fun _ _ _ h => h) (Or.inl ⟨by rfl, ?_⟩) (by assumption) ?_
          rotate_left 1
          · intro w hSw; (try dsimp only at hSw); go_simp; first | done | with_reducible rfl
          try simp only [Act.put, List.getElem_toArray, List.getElem_cons_zero, List.getElem_cons_succ, List.setIfInBounds_toArray, List.set_cons_zero, List.set_cons_succ]
          refine wpAnyH_take (i := 15) (v := ?_) rfl (by kernel_rfl) (by kernel_rfl) (by kernel_rfl) (fun _ _ _ h => h) (Or.inl ⟨by rfl, ?_⟩) (by assumption) ?_
          rotate_left 1
          · intro w hSw; (try dsimp only at hSw); go_simp; first | done | with_reducible rfl
          try simp only [Act.put, List.getElem_toArray, List.getElem_cons_zero, List.getElem_cons_succ, List.setIfInBounds_toArray, List.set_cons_zero, List.set_cons_succ]
          refine wpAnyH_take (i := 16) (v := ?_) rfl (by kernel_rfl) (by kernel_rfl) (by kernel_rfl) (fun _ _ _ h => h) (Or.inl ⟨by rfl, ?_⟩) (by assumption) ?_
          rotate_left 1
          · intro w hSw; (try dsimp only at hSw); go_simp; first | done | with_reducible rfl
          try simp only [Act.put, List.getElem_toArray, List.getElem_cons_zero, List.getElem_cons_succ, List.setIfInBounds_toArray, List.set_cons_zero, List.set_cons_succ]
          refine wpAnyH_done (by kernel_rfl) ?_ _
          clear hHeld
          obtain ⟨Wd, hWd⟩ : ∃ W, wr.drew = W := ⟨_, rfl⟩
          rw [hWd]
          have hOd : OwnT Wd w2.heap.size u5 O := by rw [← hWd]; exact hO
          have hbd : Below w2.heap.size w2 Wd := by rw [← hWd]; exact hbr.drew
          have hcd := below_cell yc hbd
          have hI3 : Hid (Inv L A (B.drop 1) (O ++ [y])) := by have h := HI.out; have ha := h.a; exact (show Inv L A (y :: B.drop 1) O by rw [HAs.out]; exact h).right (fun z hz => by rw [HAs.out] at hz; rcases List.mem_cons.1 hz with rfl | hz; exact hyx; exact le_trans hyx (srt_head ha z hz))
          clear hO hbr hWd
          have hsd := hbd.size
          go_wp2_with (first
            | (at_builtin; refine wpList_append_own _ rfl _ _ 22 rfl w2.heap.size 9 i0 (.string ⟨#[]⟩) 1 16 Tryd.underlying22 hi hz0 hz1 hz2 rfl (by decide) _ _ _ rfl (World.ownsRow.alloc hOd _) ⟨Wd.heap.size, 0, none⟩ 1 1 ([y].map Value.string) rfl rfl (new_cells Wd _ 9) (one_texts _) (by unfold maxLen; omega) (by omega) (by simp; omega) ?_))
          intro v' w3 hown' hgrow hnn
          have hb3 := (hbd.alloc hsd (.cells #[.string y] 9)).grown hgrow (by simp; omega) (fun k hk => (World.ownsRow.lt hOd k hk).1)
          have ho3 : OwnT w3 w2.heap.size v' (O ++ [y]) := by
            unfold OwnT
            rw [List.map_append, List.length_append]
            exact hown'
          clear hown' hgrow hnn hOd
          go_wp2_with fail
          go_roundw
          case rel => exact ⟨A, B.drop 1, O ++ [y], hA, tx_next hB hpb, ho3, hb3, hI3⟩
          case measure => simp only [sl]; omega
theorem sorts : ∀ N, SortIs N := by
  intro N
  induction N with
  | zero => intro v L w hL h; exact small v L w h (by omega)
  | succ N ih =>
    intro v L w hL h
    by_cases h2 : L.length < 2
    · exact small v L w h h2
    · exact large N ih v L w h h2 hL
end Go.Proofs.YtmoblfdepcjgfaaDoor.Sorted

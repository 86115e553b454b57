/- A value's text that is cut, read: plain. -/
import Derived.Test.YtopjadjaknmfeabDoorCut1
namespace Go.Proofs.YtopjadjaknmfeabDoor.Cut2
open Go.RowKit Go.Proofs.YtopjadjaknmfeabDoor.Base Go.Proofs.YtopjadjaknmfeabDoor.UBase Go.Proofs.YtopjadjaknmfeabDoor.Spec Go.Proofs.YtopjadjaknmfeabDoor.Sums Go.Proofs.YtopjadjaknmfeabDoor.Nums Go.Proofs.YtopjadjaknmfeabDoor.Dec Go.Proofs.YtopjadjaknmfeabDoor.RBt Go.Proofs.YtopjadjaknmfeabDoor.RBv Go.Proofs.YtopjadjaknmfeabDoor.Cut1 Go.Proofs.YtopjadjaknmfeabDoor.WRow Go.Proofs.YtopjadjaknmfeabDoor.Pure Go.Proofs.YtopjadjaknmfeabDoor.Names Go.Proofs.YtopjadjaknmfeabDoor.Fault Go.Proofs.YtopjadjaknmfeabDoor.Walk
set_option linter.unusedVariables false
variable {s : ByteArray}
/-- A fault, or a number that ends with the text. -/
def Rs (s : ByteArray) (X : Except F (C × Nat × Nat)) : Prop := Er s X ∨ ∃ c b, X = .ok (c, s.size, b)
def Ck (v : V) (s : ByteArray) (d : Nat) (c : C) : Prop := ∀ i b, Cu s i (pv c) → b + (pl d c).length ≤ 16384 → Rs s (v i b)
theorem blk_size (s : ByteArray) : blk s s.size = s.size := blk_end (by omega)
theorem lst_at_end {v : V} {f i b : Nat} {acc : List C} (h : Rs s (v i b)) : Er s (lst v s (f + 1) i b acc) := by
  rw [lst]
  rcases h with ⟨p, e, hp⟩ | ⟨c, b', e⟩
  · rw [e]; exact ⟨p, rfl, hp⟩
  · rw [e]
    dsimp only
    rw [blk_size, at_size, if_neg (by decide), if_neg (by decide)]
    exact Er.end s
theorem head_ne {c : C} (hk : 1 ≤ c.k ∧ c.k ≤ 6) {M : List UInt8} {i : Nat} (h : Cu s i (pv c ++ M)) : blk s i = i ∧ at' s i ≠ 93 ∧ at' s i ≠ 125 := by
  by_cases hi : i < s.size
  · obtain ⟨y, r, e, h1, h2⟩ := pv_head hk
    rw [e] at h
    have hh : at' s i = y.toNat := h.head hi
    refine ⟨blk_stop (by rw [hh]; exact h2), fun h => ?_, fun h => ?_⟩
    · rw [hh] at h; rw [h] at h1; exact absurd h1 (by decide)
    · rw [hh] at h; rw [h] at h1; exact absurd h1 (by decide)
  · have e : i = s.size := by have := h.1; omega
    subst e
    rw [blk_size, at_size]
    exact ⟨rfl, by decide, by decide⟩
theorem jn_head {c : C} {l : List C} : ∃ M, jn (pvL (c :: l)) ++ [93] = pv c ++ M := by
  rw [pvL_map, List.map_cons]
  cases hz : l.map pv with
  | nil => exact ⟨[93], rfl⟩
  | cons z zs => exact ⟨44 :: (jn (z :: zs) ++ [93]), by show (pv c ++ 44 :: jn (z :: zs)) ++ [93] = _; simp⟩
theorem lst_cut {v : V} {d : Nat} : ∀ (l : List C) (f i b : Nat) (acc : List C), l ≠ [] → s.size - i < f → (∀ c ∈ l, (1 ≤ c.k ∧ c.k ≤ 6) ∧ Bk v s d c ∧ Ck v s d c) → Cu s i (jn (pvL l) ++ [93]) → b + (plL d l).length ≤ 16384 → Er s (lst v s f i b acc)
  | [], _, _, _, _, h, _, _, _, _ => (h rfl).elim
  | [c], f, i, b, acc, _, hf, hv, hs, hb => by
    obtain ⟨f, rfl⟩ : ∃ g, f = g + 1 := ⟨f - 1, by omega⟩
    obtain ⟨hk, hB, hC⟩ := hv c List.mem_cons_self
    have e : jn (pvL [c]) = pv c := by rw [pvL_map]; rfl
    rw [e] at hs
    have hp : plL d [c] = pl d c := by rw [plL_cons, plL, List.append_nil]
    rw [hp] at hb
    rcases hs.split with hc | ⟨hst, hc⟩
    · exact lst_at_end (hC i b hc hb)
    · have e1 : i + (pv c).length = s.size := by have := hc.1; have := hc.2.1; simp at this; omega
      refine lst_at_end (.inr ⟨_, _, hB i b hst ?_ hb |>.trans (by rw [e1])⟩)
      rw [e1, at_size]
      decide
  | c :: c2 :: l, f, i, b, acc, _, hf, hv, hs, hb => by
    obtain ⟨f, rfl⟩ : ∃ g, f = g + 1 := ⟨f - 1, by omega⟩
    obtain ⟨hk, hB, hC⟩ := hv c List.mem_cons_self
    have e : jn (pvL (c :: c2 :: l)) = pv c ++ 44 :: jn (pvL (c2 :: l)) := by rw [pvL_map, pvL_map]; rfl
    rw [e, List.append_assoc] at hs
    rw [plL_cons, List.length_append] at hb
    rcases hs.split with hc | ⟨hst, hc⟩
    · exact lst_at_end (hC i b hc (by omega))
    · by_cases h1 : i + (pv c).length < s.size
      · have h44 : at' s (i + (pv c).length) = 44 := Cu.head (x := 44) hc h1
        have hbk : blk s (i + (pv c).length) = i + (pv c).length := blk_stop (by rw [h44]; decide)
        have ht : Cu s (i + (pv c).length + 1) (jn (pvL (c2 :: l)) ++ [93]) := Cu.tail (x := 44) hc h1
        have hn : blk s (i + (pv c).length + 1) = i + (pv c).length + 1 := by
          obtain ⟨M, eM⟩ := jn_head (c := c2) (l := l)
          rw [eM] at ht
          exact (head_ne (hv c2 (List.mem_cons_of_mem _ List.mem_cons_self)).1 ht).1
        rw [lst, hB i b hst (by rw [h44]; decide) (by omega)]
        dsimp only
        rw [hbk, h44, if_neg (by decide), if_pos rfl, hn]
        exact lst_cut (c2 :: l) f _ _ _ (by simp) (by omega) (fun x hx => hv x (List.mem_cons_of_mem _ hx)) ht (by omega)
      · have e1 : i + (pv c).length = s.size := by have := hc.1; omega
        refine lst_at_end (.inr ⟨_, _, hB i b hst ?_ (by omega) |>.trans (by rw [e1])⟩)
        rw [e1, at_size]
        decide
theorem pr_head {t : ByteArray} {n : List ByteArray} {c : C} {l : List C} : ∃ M, jn (List.zipWith pr (t :: n) (pvL (c :: l))) ++ [125] = 34 :: M := by
  rw [pvL_map, List.map_cons, List.zipWith_cons_cons]
  cases hz : List.zipWith pr n (l.map pv) with
  | nil => exact ⟨_, rfl⟩
  | cons y ys => exact ⟨_, rfl⟩
theorem rcd_cut {v : V} {d : Nat} : ∀ (l : List C) (n : List ByteArray) (f i b : Nat) (ns : List ByteArray) (acc : List C), l ≠ [] → n.length = l.length → s.size - i < f → (∀ c ∈ l, (1 ≤ c.k ∧ c.k ≤ 6) ∧ Bk v s d c ∧ Ck v s d c) → (∀ t ∈ n, bad t 0 = none ∧ t.size ≤ 4096) → (ns ++ n).Nodup →
    Cu s i (jn (List.zipWith pr n (pvL l)) ++ [125]) → b + (plL d l).length ≤ 16384 → Er s (rcd v s f i b ns acc)
  | [], _, _, _, _, _, _, h, _, _, _, _, _, _, _ => (h rfl).elim
  | c :: l, [], _, _, _, _, _, _, hn, _, _, _, _, _, _ => by simp at hn
  | c :: l, t :: n, f, i, b, ns, acc, _, hn, hf, hv, ht, hnd, hs, hb => by
    obtain ⟨f, rfl⟩ : ∃ g, f = g + 1 := ⟨f - 1, by omega⟩
    obtain ⟨hk, hB, hC⟩ := hv c List.mem_cons_self
    obtain ⟨t1, t2⟩ := ht t List.mem_cons_self
    have hno : has t ns = false := by
      cases hh : has t ns with
      | false => rfl
      | true =>
        rw [has_iff] at hh
        have := (List.nodup_append.1 hnd).2.2 t hh t List.mem_cons_self
        exact (this rfl).elim
    rw [plL_cons, List.length_append] at hb
    have key : ∃ R, jn (List.zipWith pr (t :: n) (pvL (c :: l))) ++ [125] = qt t ++ 58 :: (pv c ++ R) ∧ ((l = [] ∧ R = [125]) ∨ ∃ t2 n2 c2 l2, n = t2 :: n2 ∧ l = c2 :: l2 ∧ R = 44 :: (jn (List.zipWith pr n (pvL l)) ++ [125])) := by
      cases l with
      | nil =>
        have en : n = [] := List.eq_nil_of_length_eq_zero (by simpa using hn)
        subst en
        refine ⟨[125], ?_, .inl ⟨rfl, rfl⟩⟩
        have e : jn (List.zipWith pr [t] (pvL [c])) = pr t (pv c) := by rw [pvL_map]; rfl
        rw [e]
        unfold RBv.pr
        simp
      | cons c2 l2 =>
        match n, hn with
        | t2' :: n2, hn =>
          refine ⟨44 :: (jn (List.zipWith pr (t2' :: n2) (pvL (c2 :: l2))) ++ [125]), ?_, .inr ⟨_, _, _, _, rfl, rfl, rfl⟩⟩
          have e : jn (List.zipWith pr (t :: t2' :: n2) (pvL (c :: c2 :: l2))) = pr t (pv c) ++ 44 :: jn (List.zipWith pr (t2' :: n2) (pvL (c2 :: l2))) := by rw [pvL_map, pvL_map]; rfl
          rw [e]
          unfold RBv.pr
          simp
    obtain ⟨R, eR, hR⟩ := key
    rw [eR] at hs
    rcases hs.split with hc | ⟨hst, hc⟩
    · obtain ⟨p, ep, hp⟩ := txt_cut t1 hc
      rw [rcd, ep]
      exact ⟨p, rfl, hp⟩
    · rw [rcd, txt_back t1 t2 hst]
      dsimp only
      rw [hno, if_neg (by decide)]
      by_cases h1 : i + (qt t).length < s.size
      · have h58 : at' s (i + (qt t).length) = 58 := Cu.head (x := 58) hc h1
        have hb1 : blk s (i + (qt t).length) = i + (qt t).length := blk_stop (by rw [h58]; decide)
        have h2 : Cu s (i + (qt t).length + 1) (pv c ++ R) := Cu.tail (x := 58) hc h1
        rw [hb1, if_pos h58]
        have fin : Rs s (v (i + (qt t).length + 1) b) → Er s (match v (i + (qt t).length + 1) b with
            | .error e => .error e
            | .ok (c, j, b') => if at' s (blk s j) = 125 then .ok (ns ++ [t], acc ++ [c], blk s j + 1, b')
              else if at' s (blk s j) = 44 then rcd v s f (blk s (blk s j + 1)) b' (ns ++ [t]) (acc ++ [c])
              else .error (600, blk s j)) := by
          rintro (⟨p, ep, hp⟩ | ⟨c', b', e⟩)
          · rw [ep]; exact ⟨p, rfl, hp⟩
          · rw [e]
            dsimp only
            rw [blk_size, at_size, if_neg (by decide), if_neg (by decide)]
            exact Er.end s
        rcases h2.split with hc2 | ⟨hst2, hc2⟩
        · exact fin (hC _ b hc2 (by omega))
        · by_cases h3 : i + (qt t).length + 1 + (pv c).length < s.size
          · rcases hR with ⟨rfl, rfl⟩ | ⟨t2', n2, c2, l2, rfl, rfl, rfl⟩
            · have := hc2.2.1
              simp at this
              omega
            · have h44 : at' s (i + (qt t).length + 1 + (pv c).length) = 44 := Cu.head (x := 44) hc2 h3
              have hb2 : blk s (i + (qt t).length + 1 + (pv c).length) = i + (qt t).length + 1 + (pv c).length := blk_stop (by rw [h44]; decide)
              have h4 : Cu s (i + (qt t).length + 1 + (pv c).length + 1) (jn (List.zipWith pr (t2' :: n2) (pvL (c2 :: l2))) ++ [125]) := Cu.tail (x := 44) hc2 h3
              have hb3 : blk s (i + (qt t).length + 1 + (pv c).length + 1) = i + (qt t).length + 1 + (pv c).length + 1 := by
                obtain ⟨M, eM⟩ := pr_head (t := t2') (n := n2) (c := c2) (l := l2)
                by_cases h5 : i + (qt t).length + 1 + (pv c).length + 1 < s.size
                · rw [eM] at h4
                  refine blk_stop ?_
                  rw [Cu.head h4 h5]
                  decide
                · exact blk_end h5
              rw [hB _ b hst2 (by rw [h44]; decide) (by omega)]
              dsimp only
              rw [hb2, h44, if_neg (by decide), if_pos rfl, hb3]
              exact rcd_cut (c2 :: l2) (t2' :: n2) f _ _ _ _ (by simp) (by simpa using hn) (by omega) (fun x hx => hv x (List.mem_cons_of_mem _ hx)) (fun x hx => ht x (List.mem_cons_of_mem _ hx)) (by rw [List.append_assoc]; exact hnd) h4 (by omega)
          · have e1 : i + (qt t).length + 1 + (pv c).length = s.size := by have := hc2.1; omega
            exact fin (.inr ⟨_, _, hB _ b hst2 (by rw [e1, at_size]; decide) (by omega) |>.trans (by rw [e1])⟩)
      · have e1 : i + (qt t).length = s.size := by have := hc.1; omega
        rw [e1, blk_size, at_size, if_neg (by decide)]
        exact Er.end s
theorem vl_end (s : ByteArray) (n b : Nat) : vl s n s.size b = .error (600, s.size) := by
  cases n with
  | zero => rw [vl, blk_size, at_size, if_neg (by decide)]
  | succ n => rw [vl, blk_size, at_size, if_neg (by decide)]
theorem lis_cut {n d i b : Nat} {l : List C} (hi : i < s.size) (hkids : ∀ c ∈ l, (1 ≤ c.k ∧ c.k ≤ 6) ∧ Bk (vl s n) s d c ∧ Ck (vl s n) s d c) (ht : Cu s (i + 1) (jn (pvL l) ++ [93])) (hb : b + (plL d l).length ≤ 16384) : Er s (lis (vl s n) s i b) := by
  rw [lis]
  cases l with
  | nil =>
    have e1 : i + 1 = s.size := by have := ht.1; have := ht.2.1; simp [pvL, jn] at this; omega
    rw [e1, blk_size, at_size, if_neg (by decide), lst, vl_end]
    exact Er.end s
  | cons c l =>
    obtain ⟨M, eM⟩ := jn_head (c := c) (l := l)
    obtain ⟨q1, q2, -⟩ := head_ne (hkids c List.mem_cons_self).1 (by rw [← eM]; exact ht)
    obtain ⟨p, ep, hp⟩ := lst_cut (d := d) (c :: l) (s.size + 1) (i + 1) b [] (by simp) (by omega) hkids ht hb
    rw [q1, if_neg q2, ep]
    exact ⟨p, rfl, hp⟩
theorem vl_cut (s : ByteArray) : ∀ (n d : Nat) (c : C), n + d = 25 → G d c → Ck (vl s n) s d c := by
  intro n
  induction n with
  | zero =>
    intro d c hd hg
    obtain ⟨k, b, i, t, nn, l⟩ := c
    have := (hg (d, .mk k b i t nn l) (by rw [pl]; exact List.mem_cons_self)).1.2
    dsimp only at this
    omega
  | succ n ih =>
    intro d c hd hg i b hs hb
    by_cases hlt : i < s.size
    · obtain ⟨k, bo, x, t, nn, l⟩ := c
      obtain ⟨⟨⟨hk, hf⟩, -⟩, hx⟩ := hg (d, .mk k bo x t nn l) (by rw [pl]; exact List.mem_cons_self)
      dsimp only [C.k, C.i] at hk hx
      have hels := hg.elem
      have hkids : ∀ c ∈ l, (1 ≤ c.k ∧ c.k ≤ 6) ∧ Bk (vl s n) s (d + 1) c ∧ Ck (vl s n) s (d + 1) c := fun c hc => by
        refine ⟨?_, vl_back s n (d + 1) c (by omega) (hels c hc), ih (d + 1) c (by omega) (hels c hc)⟩
        obtain ⟨k', b', i', t', n', l'⟩ := c
        exact (hels _ hc (d + 1, .mk k' b' i' t' n' l') (by rw [pl]; exact List.mem_cons_self)).1.1.1
      obtain ⟨y, r, ey, hy1, hy2⟩ := pv_head (c := .mk k bo x t nn l) hk
      have hyi : at' s i = y.toNat := by rw [ey] at hs; exact hs.head hlt
      have h1 : blk s i = i := blk_stop (by rw [hyi]; exact hy2)
      have h2 : beg (at' s i) = true := by rw [hyi]; exact hy1
      clear hyi hy1 hy2 ey
      unfold fm at hf
      simp only [Bool.and_eq_true, C.k, C.b, C.i, C.s, C.n, C.l] at hf
      obtain ⟨⟨hpu, htg⟩, hnm⟩ := hf
      obtain ⟨u1, u2, u3, u4, u5⟩ := pu_parts hpu
      rw [pl, List.length_cons] at hb
      rw [vl, h1, if_pos h2, if_neg (by omega)]
      rw [pv] at hs
      have hcase : k = 1 ∨ k = 2 ∨ k = 3 ∨ k = 4 ∨ k = 5 ∨ k = 6 := by omega
      rcases hcase with rfl | rfl | rfl | rfl | rfl | rfl
      · have e : bd 1 bo x t nn (pvL l) = [110, 117, 108, 108] := rfl
        rw [e] at hs
        have a0 : at' s i = 110 := hs.head hlt
        rw [one, a0, if_pos rfl, wd_cut [110, 117, 108, 108] [110, 117, 108, 108] i rfl (by simp) hs]
        exact .inl (Er.end s)
      · cases bo with
        | true =>
          have e : bd 2 true x t nn (pvL l) = [116, 114, 117, 101] := rfl
          rw [e] at hs
          have a0 : at' s i = 116 := hs.head hlt
          rw [one, a0, if_neg (by decide), if_pos rfl, wd_cut [116, 114, 117, 101] [116, 114, 117, 101] i rfl (by simp) hs]
          exact .inl (Er.end s)
        | false =>
          have e : bd 2 false x t nn (pvL l) = [102, 97, 108, 115, 101] := rfl
          rw [e] at hs
          have a0 : at' s i = 102 := hs.head hlt
          rw [one, a0, if_neg (by decide), if_neg (by decide), if_pos rfl, wd_cut [102, 97, 108, 115, 101] [102, 97, 108, 115, 101] i rfl (by simp) hs]
          exact .inl (Er.end s)
      · have e : bd 3 bo x t nn (pvL l) = Lib.itoa x := rfl
        rw [e] at hs
        obtain ⟨y, r, ey, hy⟩ := itoa_head x
        have hh : at' s i = y.toNat := by rw [ey] at hs; exact hs.head hlt
        have hyr : y.toNat = 45 ∨ (48 ≤ y.toNat ∧ y.toNat ≤ 57) := by
          rcases hy with rfl | hy
          · exact .inl rfl
          · exact .inr (isDig_le hy)
        rw [one, if_neg (by omega), if_neg (by omega), if_neg (by omega), if_neg (by omega), if_neg (by omega), if_neg (by omega)]
        rcases nm_cut hx hs hlt with e | ⟨z, e⟩
        · rw [e]; exact .inl (Er.end s)
        · rw [e]; exact .inr ⟨_, _, rfl⟩
      · have e : bd 4 bo x t nn (pvL l) = qt t := rfl
        rw [e] at hs
        obtain ⟨t1, t2⟩ := tg_parts htg
        have hh : at' s i = 34 := Cu.head (x := 34) hs hlt
        obtain ⟨p, ep, hp⟩ := txt_cut t1 hs
        rw [one, hh, if_neg (by decide), if_neg (by decide), if_neg (by decide), if_pos rfl, ep]
        exact .inl ⟨p, rfl, hp⟩
      · have e : bd 5 bo x t nn (pvL l) = 91 :: (jn (pvL l) ++ [93]) := rfl
        rw [e] at hs
        have hh : at' s i = 91 := hs.head hlt
        have ht := hs.tail hlt
        rw [one, hh, if_neg (by decide), if_neg (by decide), if_neg (by decide), if_neg (by decide), if_pos rfl]
        exact .inl (lis_cut (by omega) hkids ht (by omega))
      · have e : bd 6 bo x t nn (pvL l) = 123 :: (jn (List.zipWith pr nn (pvL l)) ++ [125]) := rfl
        rw [e] at hs
        have hnm' : nmb nn l.length = true := by simpa using hnm
        unfold nmb at hnm'
        simp only [Bool.and_eq_true, decide_eq_true_eq, List.all_eq_true] at hnm'
        obtain ⟨⟨hlen, hall⟩, hnd⟩ := hnm'
        have hh : at' s i = 123 := hs.head hlt
        have ht := hs.tail hlt
        rw [one, hh, if_neg (by decide), if_neg (by decide), if_neg (by decide), if_neg (by decide), if_neg (by decide), if_pos rfl, Spec.rec]
        cases l with
        | nil =>
          obtain rfl : nn = [] := List.eq_nil_of_length_eq_zero (by simpa using hlen)
          have e1 : i + 1 = s.size := by have := ht.1; have := ht.2.1; simp [pvL, jn] at this; omega
          have ht0 : txt s s.size = .error (600, s.size) := by rw [txt, at_size, if_neg (by decide)]
          rw [e1, blk_size, at_size, if_neg (by decide), rcd, ht0]
          exact .inl (Er.end s)
        | cons c l =>
          match nn, hlen, hall, hnd, ht with
          | tt :: nn, hlen, hall, hnd, ht =>
            have hne : blk s (i + 1) = i + 1 ∧ at' s (i + 1) ≠ 125 := by
              by_cases h5 : i + 1 < s.size
              · obtain ⟨M, eM⟩ := pr_head (t := tt) (n := nn) (c := c) (l := l)
                have ht' := ht
                rw [eM] at ht'
                have h34 : at' s (i + 1) = 34 := ht'.head h5
                exact ⟨blk_stop (by rw [h34]; decide), by omega⟩
              · have e1 : i + 1 = s.size := by have := ht.1; omega
                rw [e1, blk_size, at_size]
                exact ⟨rfl, by decide⟩
            obtain ⟨p, ep, hp⟩ := rcd_cut (d := d + 1) (c :: l) (tt :: nn) (s.size + 1) (i + 1) (b + 1) [] [] (by simp) hlen (by omega) hkids (fun t ht => tg_parts (hall t ht)) (by simpa using nd_iff.1 hnd) ht (by omega)
            rw [hne.1, if_neg hne.2, ep]
            exact .inl ⟨p, rfl, hp⟩
    · have e : i = s.size := by have := hs.1; omega
      subst e
      rw [vl_end]
      exact .inl (Er.end s)
/-- A list's text that is cut. -/
theorem prs_cut {l : List C} (hg : G 1 (.mk 5 false 0 ⟨#[]⟩ [] l)) (hn : (pl 1 (.mk 5 false 0 ⟨#[]⟩ [] l)).length ≤ 16384) (hl : (pv (.mk 5 false 0 ⟨#[]⟩ [] l)).length ≤ 65536) {k : Nat} (hk : k < (pv (.mk 5 false 0 ⟨#[]⟩ [] l)).length) :
    Er ⟨((pv (.mk 5 false 0 ⟨#[]⟩ [] l)).take k).toArray⟩ (prs ⟨((pv (.mk 5 false 0 ⟨#[]⟩ [] l)).take k).toArray⟩) := by
  obtain ⟨c, hc⟩ : ∃ c, C.mk 5 false 0 ⟨#[]⟩ [] l = c := ⟨_, rfl⟩
  have hs : (⟨((pv c).take k).toArray⟩ : ByteArray).size = k := by show ((pv c).take k).toArray.size = _; rw [hc] at hk; simp; omega
  rw [hc] at hg hn hl hk ⊢
  have hcu : Cu ⟨((pv c).take k).toArray⟩ 0 (pv c) := by
    refine ⟨by omega, by omega, fun j x hx hj => ?_⟩
    have h := (St.whole ((pv c).take k)).2 j x (by rw [List.getElem?_take_of_lt (by omega)]; exact hx)
    exact h
  generalize hS : (⟨((pv c).take k).toArray⟩ : ByteArray) = S at *
  clear hS
  have hE : Er S (vl S 24 0 0) := by
    by_cases hk0 : 0 < S.size
    · subst hc
      have e5 : pv (.mk 5 false 0 ⟨#[]⟩ [] l) = 91 :: (jn (pvL l) ++ [93]) := by rw [pv]; rfl
      rw [e5] at hcu
      have h91 : at' S 0 = 91 := hcu.head hk0
      have hels := hg.elem
      have hkids : ∀ c ∈ l, (1 ≤ c.k ∧ c.k ≤ 6) ∧ Bk (vl S 23) S 2 c ∧ Ck (vl S 23) S 2 c := fun c hc => by
        refine ⟨?_, vl_back S 23 2 c rfl (hels c hc), vl_cut S 23 2 c rfl (hels c hc)⟩
        obtain ⟨k', b', i', t', n', l'⟩ := c
        exact (hels _ hc (2, .mk k' b' i' t' n' l') (by rw [pl]; exact List.mem_cons_self)).1.1.1
      rw [pl, List.length_cons] at hn
      rw [vl, blk_stop (by rw [h91]; decide), h91, if_pos (by decide), if_neg (by decide), one, h91, if_neg (by decide), if_neg (by decide), if_neg (by decide), if_neg (by decide), if_pos rfl]
      exact lis_cut hk0 hkids (hcu.tail hk0) (by have h : (plL 2 l).length + 1 ≤ 16384 := hn; omega)
    · have e0 := vl_end S 24 0
      have hz : S.size = 0 := by omega
      rw [hz] at e0
      rw [e0]
      exact ⟨0, rfl, .inl hz.symm⟩
  obtain ⟨p, ep, hp⟩ := hE
  rw [prs, if_neg (by omega), ep]
  exact ⟨p, rfl, hp⟩
end Go.Proofs.YtopjadjaknmfeabDoor.Cut2

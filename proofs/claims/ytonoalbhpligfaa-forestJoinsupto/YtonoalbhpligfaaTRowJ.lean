/- A copy of trees as a row of one's own, and two such rows joined. -/
import Derived.Test.YtonoalbhpligfaaTCopy
namespace Go.Proofs.Ytonoalbhpligfaa.TRowJ
open Go.RowKit Go.Proofs.Ytonoalbhpligfaa.TBase Go.Proofs.Ytonoalbhpligfaa.TLend Go.Proofs.Ytonoalbhpligfaa.TCopy
set_option linter.unusedVariables false

set_option maxRecDepth 20000 in
set_option maxHeartbeats 800000 in
theorem copyO_of (m : Nat) (hm : Copies m) (v : Value) (l : List T) (w : World) (h : InL false All w m v l) :
    Calls Try.prog 22 #[v] w fun e w' => ∃ u us, e = .returned u ∧ OwnV w' w.heap.size u us ∧ us.length = l.length ∧ Hid (∀ j (h : j < us.length) (h' : j < l.length), In false (El w.heap.size w'.heap.size u) w' m us[j] l[j]) ∧ Below w.heap.size w w' := by
  obtain ⟨i0, hi, hz0, hz1, hz2⟩ := info_parts infoT
  obtain ⟨a, cap, rfl, hlc, hcm, hlen, hnil, hL⟩ := h
  go_enter Try.func22, Try.ntmps22
  go_wp2_with fail
  go_loopw [3, 4] (fun out i wr => ∃ (q : Nat) (us : List Value), q ≤ l.length ∧ us.length = q ∧ i = .int .i64 q ∧ OwnV wr w.heap.size out us ∧
      (∀ j (h : j < us.length) (h' : j < l.length), In false (El w.heap.size wr.heap.size out) wr m us[j] l[j]) ∧ Below w.heap.size w wr) (fun _ i _ => l.length - (intOf i).toNat)
  case atStart => exact ⟨0, [], by omega, rfl, rfl, ⟨World.ownsRow_nil _ _ _ _, fun x hx => by cases hx⟩, fun j h => by simp at h, Below.refl _ _⟩
  case round =>
    obtain ⟨q, us, hq, hus, rfl, hown, hels, hb⟩ := hrel
    have hsz := hb.size
    by_cases hlt : q < l.length
    · obtain ⟨g, o, u, rfl, -, hu, hin⟩ := elem_at hL hlt
      have hu := four_below hu hb
      have hin := hin.below hb
      obtain ⟨v0, v1, v2, v3, rfl, d0, d1, d2, d3⟩ := hu
      have c10 := hm _ _ wr hin
      have HH : Hid (∀ j (h : j < us.length) (h' : j < l.length), In false (El w.heap.size wr.heap.size u3) wr m us[j] l[j]) := hels
      have Hus : Hid (us.length = q) := hus
      have Hown : Hid (OwnV wr w.heap.size u3 us) := hown
      have hrow := hown.1
      have hlen2 : us.length = q := hus
      clear hels hin hus hown
      go_wp2_with (first
        | (go_at_call 37; refine c10.mono ?_; rintro e w1 ⟨u, rfl, hin1, b1⟩; obtain ⟨x0, x1, x2, x3, rfl, hone⟩ := hin1.four; have hrow1 := World.ownsRow.alloc (own_below hrow b1) (.cells #[x0, x1, x2, x3] 37); have hs1 := b1.size)
        | (at_builtin; refine wpList_append_own_at _ rfl _ _ 22 rfl w.heap.size 37 i0 (.agg #[.string ⟨#[]⟩, .string ⟨#[]⟩, .slice none 0 0, .slice none 0 0]) 4 80 Try.underlying22 hi hz0 hz1 hz2 rfl (by decide) _ _ _ rfl hrow1 ⟨w1.heap.size, 0, none⟩ 1 1 [x0, x1, x2, x3] rfl rfl (new_cells w1 _ 37) hone (by unfold maxLen; omega) (by omega) (by simp; omega) ?_))
      intro v' w2 hown' hgrow _ hat
      have hels2 := els_step HH.out Hus.out hlt Hown.out b1 hin1 hsz _ hgrow hat
      have hb3 := ((hb.trans (b1.mono hsz)).alloc (by omega) (.cells #[x0, x1, x2, x3] 37)).grown hgrow (by simp; omega) (fun k hk => (World.ownsRow.lt hrow k hk).1)
      have ho2 : OwnV w2 w.heap.size v' (us ++ [.agg #[x0, x1, x2, x3]]) := by
        refine ⟨?_, fours_snoc Hown.out.2 ⟨_, _, _, _, rfl, hone⟩⟩
        rw [flat_append, List.length_append, hlen2]
        exact hown'
      have hlen3 : (us ++ [Value.agg #[x0, x1, x2, x3]]).length = q + 1 := by simp [hlen2]
      obtain ⟨us2, hus2⟩ : ∃ us2, us ++ [Value.agg #[x0, x1, x2, x3]] = us2 := ⟨_, rfl⟩
      rw [hus2] at hels2 ho2 hlen3
      have H2 : Hid (∀ j (h : j < us2.length) (h' : j < l.length), In false (El w.heap.size w2.heap.size v') w2 m us2[j] l[j]) := fun j h h' => hels2 j h h'
      clear hown' hgrow hat hrow hrow1 Hown HH Hus hels2 hus2 hin1 hone c10
      go_wp2_with fail
      go_roundw
      case rel => exact ⟨q + 1, us2, by omega, hlen3, by go_num, ho2, H2.out, hb3⟩
      case measure => simp only [intOf]; omega
    · obtain rfl : q = l.length := by omega
      have hnlt : decide ((l.length : Int) < (l.length : Int)) = false := by simp
      have HH : Hid (∀ j (h : j < us.length) (h' : j < l.length), In false (El w.heap.size wr.heap.size u3) wr m us[j] l[j]) := hels
      have Hown : Hid (OwnV wr w.heap.size u3 us) := hown
      have Hus : Hid (us.length = l.length) := hus
      clear hels hus hown
      go_wp2_with fail
      go_ret
      exact ⟨_, us, rfl, Hown.out, Hus.out, HH, hb⟩
theorem copyO_c (m : Nat) (v : Value) (l : List T) (w : World) (h : InL false All w m v l) :
    Calls Try.prog 22 #[v] w fun e w' => ∃ u us, e = .returned u ∧ OwnV w' w.heap.size u us ∧ us.length = l.length ∧ Hid (∀ j (h : j < us.length) (h' : j < l.length), In false (El w.heap.size w'.heap.size u) w' m us[j] l[j]) ∧ Below w.heap.size w w' :=
  copyO_of m (copyTAll m) v l w h
theorem inL_of_own {w : World} {B m : Nat} {v : Value} {us : List Value} {l : List T} (h : OwnV w B v us) (hl : us.length = l.length) (hb : l.length * 80 ≤ 140737488351232) (hel : ∀ j (h : j < us.length) (h' : j < l.length), In false All w m us[j] l[j]) : InL false All w m v l := by
  rcases h.1.2 with ⟨h0, h1⟩ | ⟨g, cap, cur, hv, _, _, hn, hm, _⟩
  · obtain rfl : l = [] := List.eq_nil_of_length_eq_zero (by omega)
    exact ⟨none, 0, h0, by simp, by simp, by simp, fun _ => rfl, .inl ⟨rfl, rfl⟩⟩
  · subst hv
    refine ⟨some ⟨g, 0, none⟩, cap, by rw [hl], by omega, hm, hb, (fun h => by cases h), .inr ⟨g, 0, rfl, trivial, fun j hj => ?_, fun h => by cases h⟩⟩
    exact ⟨_, ownV_four h j (by omega), hel j (by omega) hj⟩
theorem fours_append {a b : List Value} (h : Fours a) (k : Fours b) : Fours (a ++ b) := by
  intro x hx
  rcases List.mem_append.1 hx with hx | hx
  · exact h x hx
  · exact k x hx
theorem flat_one {us : List Value} (h : Fours us) : ∀ u ∈ flat us, u.oneCell' = true := by
  intro u hu
  obtain ⟨x, hx, hu⟩ := List.mem_flatMap.1 hu
  obtain ⟨v0, v1, v2, v3, rfl, ho⟩ := h x hx
  exact ho u (by simpa [Value.cells] using hu)
/-- Rows joined hold both. -/
theorem joined {w w1 w2 w3 : World} {m : Nat} {u1 u2 v' : Value} {us1 us2 : List Value} {L M : List T} (h1 : OwnV w1 w.heap.size u1 us1) (e1 : us1.length = L.length) (k1 : ∀ j (h : j < us1.length) (h' : j < L.length), In false (El w.heap.size w1.heap.size u1) w1 m us1[j] L[j])
    (b2 : Below w1.heap.size w1 w2) (h2 : OwnV w2 w1.heap.size u2 us2) (e2 : us2.length = M.length) (k2 : ∀ j (h : j < us2.length) (h' : j < M.length), In false (El w1.heap.size w2.heap.size u2) w2 m us2[j] M[j])
    (hown : w3.ownsRow w.heap.size 37 4 v' (us1.length + us2.length) (flat us1 ++ flat us2)) (hgrow : w2.grownBy w3 u1.ownBlock) (hb : (L ++ M).length * 80 ≤ 140737488351232) : InL false All w3 m v' (L ++ M) := by
  have hlt := World.ownsRow.lt h1.1
  have hs2 := b2.size
  refine inL_of_own (B := w.heap.size) (us := us1 ++ us2) ⟨?_, fours_append h1.2 h2.2⟩ (by simp [e1, e2]) hb ?_
  · rw [flat_append, List.length_append]
    exact hown
  · intro j hj hj'
    by_cases h : j < us1.length
    · rw [List.getElem_append_left h, List.getElem_append_left (by omega)]
      refine (((k1 j h (by omega)).keep (w' := w3) ?_).plain)
      intro b hS hb
      rw [hgrow.block b (by omega) (fun e => hS.2.2 e.symm), b2.block b hb]
    · have hj2 : j < us1.length + us2.length := by simpa using hj
      rw [List.getElem_append_right (by omega), List.getElem_append_right (by omega)]
      have key := (k2 (j - us1.length) (by omega) (by omega)).keep (w' := w3) (by
        intro b hS hb
        exact hgrow.block b hb (fun e => by have := (hlt b e.symm).2; have := hS.1; omega))
      simpa [e1] using key.plain
end Go.Proofs.Ytonoalbhpligfaa.TRowJ

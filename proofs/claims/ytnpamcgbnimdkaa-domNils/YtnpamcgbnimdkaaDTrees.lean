/- What an arena holds, as trees: contracts of trees and Forest. -/
import Derived.Test.YtnpamcgbnimdkaaDArena
import Derived.Deep.AppendLies
import Derived.Deep.RegionHeld3
namespace Go.Proofs.Ytnpamcgbnimdkaa.DTrees
open Go.RowKit Go.Proofs.Ytnpamcgbnimdkaa.TBase Go.Proofs.Ytnpamcgbnimdkaa.DBase Go.Proofs.Ytnpamcgbnimdkaa.DJoin Go.Proofs.Ytnpamcgbnimdkaa.DNeed Go.Proofs.Ytnpamcgbnimdkaa.DKids Go.Proofs.Ytnpamcgbnimdkaa.DCell Go.Proofs.Ytnpamcgbnimdkaa.DArena
set_option linter.unusedVariables false

/-- The kids of x, nested less than m deep, are these trees. -/
def Tr (a : Nat → Nd) (A : Nat → List (ByteArray × ByteArray)) (n : Nat) : Nat → Nat → List T → Prop
  | 0, _, _ => False
  | m + 1, x, ts => ∃ ks, Chain a n (a x).fi ks ∧ ks.length ≤ 8192 ∧ ks.length = ts.length ∧ ∀ j (h : j < ks.length) (h' : j < ts.length), ∃ sub, ts[j] = .mk (a ks[j]).gt (a ks[j]).xt (A ks[j]) sub ∧ Tr a A n m ks[j] sub
/-- All texts are of a length that may be. -/
def Bd (s : St) : Prop := ∀ k, (s.a k).gt.size ≤ 140737488351232 ∧ (s.a k).xt.size ≤ 140737488351232 ∧ (s.A k).length * 32 ≤ 140737488351232 ∧ ∀ t ∈ s.A k, t.1.size ≤ 140737488351232 ∧ t.2.size ≤ 140737488351232
theorem chain_mp (V : Nat → Value) (a : Nat → Nd) (n : Nat) : ∀ (ks : List Nat) (o : Option Nat), Chain a n o ks → Chain (mp V a) n o ks
  | [], o, h => h
  | k :: r, o, h => ⟨h.1, h.2.1, chain_mp V a n r _ h.2.2⟩
theorem chain_lt {a : Nat → Nd} {n : Nat} : ∀ {ks : List Nat} {o : Option Nat}, Chain a n o ks → ∀ j (h : j < ks.length), ks[j] < n
  | [], o, h, j, hj => by simp at hj
  | k :: r, o, h, 0, hj => h.2.1
  | k :: r, o, h, j + 1, hj => chain_lt h.2.2 j (by simpa using hj)
theorem ax_of_own {w : World} {B : Nat} {v : Value} {L : List (ByteArray × ByteArray)} (h : OwnA w B v L) (h1 : L.length * 32 ≤ 140737488351232) (h2 : ∀ t ∈ L, t.1.size ≤ 140737488351232 ∧ t.2.size ≤ 140737488351232) : Ax false (Rg B w.heap.size) w v L := by
  have h0 := h
  rcases h.2 with ⟨rfl, e⟩ | ⟨g, cap, cur, rfl, q1, q2, q3, q4, -⟩
  · have := List.eq_nil_of_length_eq_zero e
    subst this
    exact ⟨none, 0, rfl, by simp, by simp, by simp, by simp, fun _ => rfl, .inl ⟨rfl, rfl⟩⟩
  · exact ⟨_, cap, rfl, q3, q4, h1, h2, (fun e => by cases e), .inr ⟨g, 0, rfl, ⟨(ownA_lt h0).1, (ownA_lt h0).2⟩, ownA_cell h0, fun e => by cases e⟩⟩
theorem hs_at {w : World} {v : Value} {ks : List Nat} (h : Hs w v (hl ks)) (j : Nat) (hj : j < ks.length) : ∃ g o cap, v = .slice (some ⟨g, o, none⟩) ks.length cap ∧ w.cell? ⟨g, o + j, none⟩ = some (.int .i64 (ks[j] : Nat)) := by
  obtain ⟨a, cp, rfl, -, -, hc⟩ := h
  have e : (hl ks).length = ks.length := by simp [hl]
  rcases hc with h | ⟨g', o', rfl, h⟩
  · rw [h] at e
    simp at e
    omega
  · refine ⟨g', o', cp, by rw [e], ?_⟩
    rw [h j (by omega)]
    simp [hl]
def Trs (m : Nat) : Prop := ∀ (x : Nat) (ts : List T) (w : World) (B p gc n : Nat) (q : Nat → Int) (s : St) (fv : Value) (V : Nat → Value), Ar w B p gc n q s fv V → Bd s → x < n → Tr s.a s.A n m x ts →
    Calls Try.prog 66 #[.pointer (some ⟨p, 0, none⟩), .int .i64 x] w fun e w' => ∃ v, e = .returned v ∧ InL false (Rg w.heap.size w'.heap.size) w' m v ts ∧ Below w.heap.size w w'
set_option maxRecDepth 20000 in
set_option maxHeartbeats 1600000 in
theorem trees_of (m : Nat) (hm : Trs m) : Trs (m + 1) := by
  intro x ts w B p gc n q s fv V har hbd hx htr
  obtain ⟨i0, hi, hz0, hz1, hz2⟩ := info_parts infoT
  obtain ⟨ks, hch, hk8, hkl, hsub⟩ := htr
  have ck := kids_c har.bx har.cr har.hn hx (chain_mp V s.a n ks _ hch) hk8
  have HAR : Hid (Ar w B p gc n q s fv V) := har
  have HS : Hid (∀ j (h : j < ks.length) (h' : j < ts.length), ∃ sub, ts[j] = .mk (s.a ks[j]).gt (s.a ks[j]).xt (s.A ks[j]) sub ∧ Tr s.a s.A n m ks[j] sub) := hsub
  have HCH : Hid (Chain s.a n (s.a x).fi ks) := hch
  have HBD : Hid (Bd s) := hbd
  have HKL : Hid (ks.length = ts.length) := hkl
  have hhl : (hl ks).length = ks.length := by simp [hl]
  clear har hsub hch hbd hkl
  go_enter Try.func66, Try.ntmps66
  go_wp2_with (first | (go_at_call 67; refine ck.mono ?_; rintro e w1 ⟨kv, rfl, ho, hb1⟩; obtain ⟨ka, kc, rfl⟩ := ho.shape; have HO : Hid (Oi w1 w.heap.size (.slice ka (hl ks).length kc) (hl ks)) := ho; clear ho ck; rw [hhl] at HO ⊢; clear hhl))
  have hw1 := hb1.size
  go_loopw [5, 13] (fun out i wr => ∃ (j : Nat) (us : List Value), j ≤ ks.length ∧ us.length = j ∧ i = .int .i64 j ∧ OwnV wr w1.heap.size out us ∧
      (∀ j (h : j < us.length) (h' : j < ts.length), In false (El w1.heap.size wr.heap.size out) wr (m + 1) us[j] ts[j]) ∧ Below w1.heap.size w1 wr) (fun _ i _ => ks.length - (intOf i).toNat)
  case atStart => exact ⟨0, [], Nat.zero_le _, rfl, rfl, ⟨World.ownsRow_nil _ _ _ _, fun x hx => by cases hx⟩, fun j h => by simp at h, Below.refl _ _⟩
  case round =>
    obtain ⟨j, us, hj, hus, rfl, hown, hels, hb⟩ := hrel
    have hsz := hb.size
    by_cases hlt : j < ks.length
    · have hlt2 : j < ts.length := by rw [← HKL.out]; exact hlt
      have bw : Below w.heap.size w wr := hb1.trans (hb.mono hw1)
      have hA := HAR.out.below bw
      have hkn := chain_lt HCH.out j hlt
      obtain ⟨sub, hts, htr⟩ := HS.out j hlt hlt2
      obtain ⟨gk, ok, kc', e, kx⟩ := hs_at HO.out.hs j hlt
      cases e
      have kx := below_cell kx hb
      obtain ⟨k, hk⟩ : ∃ k, ks[j] = k := ⟨_, rfl⟩
      rw [hk] at hkn hts htr kx
      have hbk := HBD.out k
      have k0 := hA.bx.at0
      have hat := hA.ats k hkn
      obtain ⟨b1, c1, hV⟩ := ownA_shape hat
      have q0 := hA.cr.at hkn (k := 0) (by omega)
      have q1 := hA.cr.at hkn (k := 1) (by omega)
      have q2 := hA.cr.at hkn (k := 2) (by omega)
      have q3 := hA.cr.at hkn (k := 3) (by omega)
      have q4 := hA.cr.at hkn (k := 4) (by omega)
      have q5 := hA.cr.at hkn (k := 5) (by omega)
      have q6 := hA.cr.at hkn (k := 6) (by omega)
      have q7 := hA.cr.at hkn (k := 7) (by omega)
      have q8 := hA.cr.at hkn (k := 8) (by omega)
      rw [show (mp V s.a k).put 0 = .bool (s.a k).lv from rfl, Nat.add_zero] at q0
      rw [show (mp V s.a k).put 1 = .string (s.a k).gt from rfl] at q1
      rw [show (mp V s.a k).put 2 = .string (s.a k).xt from rfl] at q2
      rw [show (mp V s.a k).put 3 = V k from rfl, hV] at q3
      rw [show (mp V s.a k).put 4 = .int .i64 (en (s.a k).pa) from rfl] at q4
      rw [show (mp V s.a k).put 5 = .int .i64 (en (s.a k).fi) from rfl] at q5
      rw [show (mp V s.a k).put 6 = .int .i64 (en (s.a k).la) from rfl] at q6
      rw [show (mp V s.a k).put 7 = .int .i64 (en (s.a k).pr) from rfl] at q7
      rw [show (mp V s.a k).put 8 = .int .i64 (en (s.a k).ne) from rfl] at q8
      rw [hV] at hat
      clear hV
      have HIN : Hid (∀ (w2 w3 : World) (u v3 : Value), Below wr.heap.size wr w2 → wr.heap.size ≤ w2.heap.size → OwnA w2 wr.heap.size u (s.A k) → Below w2.heap.size w2 w3 → InL false (Rg w2.heap.size w3.heap.size) w3 m v3 sub → In false (Rg wr.heap.size w3.heap.size) w3 (m + 1) (.agg #[.string (s.a k).gt, .string (s.a k).xt, u, v3]) ts[j]) := by
        intro w2 w3 u v3 b2 hs2 hu b3 hv3
        rw [hts, in_iff]
        have := b3.size
        exact ⟨u, v3, rfl, hbk.1, hbk.2.1, ((ax_of_own hu hbk.2.2.1 hbk.2.2.2).below b3).weak (fun b hb => ⟨hb.1, by have := hb.2; omega⟩) false id, hv3.weak (fun b hb => ⟨by have := hb.1; omega, hb.2⟩) false id m (Nat.le_refl _)⟩
      obtain ⟨cl, hcl⟩ : ∃ cl, #[Value.bool (s.a k).lv, .string (s.a k).gt, .string (s.a k).xt, .slice b1 (s.A k).length c1, .int .i64 (en (s.a k).pa), .int .i64 (en (s.a k).fi), .int .i64 (en (s.a k).la), .int .i64 (en (s.a k).pr), .int .i64 (en (s.a k).ne)] = cl := ⟨_, rfl⟩
      obtain ⟨W6, hW6⟩ : ∃ W6, wr.alloc (.cells cl 71) = W6 := ⟨_, rfl⟩
      have b6 : Below wr.heap.size wr W6 := by rw [← hW6]; exact (Below.refl _ wr).alloc (Nat.le_refl _) _
      have y6 : W6.heap[wr.heap.size]? = some (.cells #[Value.bool (s.a k).lv, .string (s.a k).gt, .string (s.a k).xt, .slice b1 (s.A k).length c1, .int .i64 (en (s.a k).pa), .int .i64 (en (s.a k).fi), .int .i64 (en (s.a k).la), .int .i64 (en (s.a k).pr), .int .i64 (en (s.a k).ne)] 71 (0, 0)) := by rw [← hW6, hcl]; exact heap_alloc_new wr _
      have z6 : W6.heap.size = wr.heap.size + 1 := by rw [← hW6]; simp
      have b6d : Below wr.heap.size wr W6.drew := b6.drew
      have cc := copied_c (.slice b1 (s.A k).length c1) (s.A k) W6.drew (((ax_of_own hat hbk.2.2.1 hbk.2.2.2).plain.below b6).below (Below.refl _ _).drew)
      obtain ⟨x0, x1, x2, x3, -⟩ := nine_box y6
      have HC : Hid (∀ w2, Below W6.drew.heap.size W6.drew w2 → w2.cell? ⟨wr.heap.size, 1, none⟩ = some (.string (s.a k).gt) ∧ w2.cell? ⟨wr.heap.size, 2, none⟩ = some (.string (s.a k).xt) ∧ w2.cell? ⟨wr.heap.size, 3, none⟩ = some (.slice b1 (s.A k).length c1) ∧ Below wr.heap.size wr w2 ∧ wr.heap.size + 1 ≤ w2.heap.size ∧ Calls Try.prog 66 #[.pointer (some ⟨p, 0, none⟩), .int .i64 k] w2 fun e w' => ∃ v, e = .returned v ∧ InL false (Rg w2.heap.size w'.heap.size) w' m v sub ∧ Below w2.heap.size w2 w' ∧ w'.cell? ⟨wr.heap.size, 1, none⟩ = some (.string (s.a k).gt) ∧ w'.cell? ⟨wr.heap.size, 2, none⟩ = some (.string (s.a k).xt) ∧ w'.cell? ⟨wr.heap.size, 3, none⟩ = some (.slice b1 (s.A k).length c1)) := by
        intro w2 b2
        have bb : Below W6.heap.size W6 w2 := (Below.refl _ W6).drew.trans b2
        have hs2 := bb.size
        have y2 := (bb.block wr.heap.size (by omega)).trans y6
        obtain ⟨-, e1, e2, e3, -⟩ := nine_box y2
        have b7 : Below wr.heap.size wr w2 := b6.trans (bb.mono (by omega))
        refine ⟨e1, e2, e3, b7, by omega, ?_⟩
        refine (hm k sub w2 B p gc n q s fv V (hA.below b7) HBD.out hkn htr).mono ?_
        rintro e w' ⟨v, rfl, hv, hb'⟩
        obtain ⟨-, f1, f2, f3, -⟩ := nine_box ((hb'.block wr.heap.size (by omega)).trans y2)
        exact ⟨v, rfl, hv, hb', f1, f2, f3⟩
      have HH : Hid (∀ j (h : j < us.length) (h' : j < ts.length), In false (El w1.heap.size wr.heap.size u5) wr (m + 1) us[j] ts[j]) := hels
      have Hown : Hid (OwnV wr w1.heap.size u5 us) := hown
      have hus' : us.length = j := hus
      have Hus : Hid (us.length = j) := hus
      rw [← hcl] at hW6
      have HW6 : Hid (wr.alloc (.cells #[Value.bool (s.a k).lv, .string (s.a k).gt, .string (s.a k).xt, .slice b1 (s.A k).length c1, .int .i64 (en (s.a k).pa), .int .i64 (en (s.a k).fi), .int .i64 (en (s.a k).la), .int .i64 (en (s.a k).pr), .int .i64 (en (s.a k).ne)] 71) = W6) := hW6
      clear hels hown hus hW6 hcl y6 hat hA htr hts hbk hk bw
      go_wp2_with fail
      rw [HW6.out]
      have NB : Hid (some wr.heap.size ≠ u5.ownBlock) := fun e => by have := (World.ownsRow.lt Hown.out.1 _ e.symm).2; omega
      have HR : Hid (∀ w2 w3 (o : Obj), Below wr.heap.size wr w2 → Below w2.heap.size w2 w3 → (w3.alloc o).ownsRow w1.heap.size 28 4 u5 us.length (flat us)) := fun w2 w3 o h2 h3 => World.ownsRow.alloc (own_below (own_below Hown.out.1 h2) h3) o
      have HD : Hid (W6.drew.heap.size = wr.heap.size + 1) := z6
      clear HW6 b6 b6d q0 q1 q2 q3 q4 q5 q6 q7 q8 x0 z6 k0 kx
      go_region_held3 (fun w' => w'.cell? ⟨wr.heap.size, 1, none⟩ = some (.string (s.a k).gt) ∧ w'.cell? ⟨wr.heap.size, 2, none⟩ = some (.string (s.a k).xt) ∧ w'.cell? ⟨wr.heap.size, 3, none⟩ = some (.slice b1 (s.A k).length c1)) (go_keep) (first
        | (go_at_call 41; refine cc.mono ?_; rintro e w2 ⟨u, rfl, hu, b2⟩; obtain ⟨e1, e2, e3, b7, hs7, ct⟩ := HC.out w2 b2; obtain ⟨ub, uq, rfl⟩ := ownA_shape hu; have HU : Hid (OwnA w2 W6.drew.heap.size (.slice ub (s.A k).length uq) (s.A k)) := hu; clear hu cc b2)
        | (go_at_call 66; refine ct.mono ?_; rintro e w3 ⟨v3, rfl, hv3, b3, f1, f2, f3⟩; obtain ⟨va, vc, rfl, -⟩ := id hv3; have HV : Hid (InL false (Rg w2.heap.size w3.heap.size) w3 m (.slice va sub.length vc) sub) := hv3; have hs3 := b3.size; have hrow1 := HR.out w2 w3 (.cells #[.string (s.a k).gt, .string (s.a k).xt, .slice ub (s.A k).length uq, .slice va sub.length vc] 28) b7 b3; clear hv3 ct)
        | (refine step_append_lies _ (by rfl) _ _ _ (by rfl) w1.heap.size 28 i0 (.agg #[.string ⟨#[]⟩, .string ⟨#[]⟩, .slice none 0 0, .slice none 0 0]) 4 80 Try.underlying26 hi hz0 hz1 hz2 rfl (by decide) _ us.length (flat us) (by rfl) hrow1 ⟨w3.heap.size, 0, none⟩ 1 1 [.string (s.a k).gt, .string (s.a k).xt, .slice ub (s.A k).length uq, .slice va sub.length vc] (by rfl) rfl (new_cells w3 _ 28) (by simp [Value.oneCell']) (by omega) (by unfold maxLen; omega) (by omega) (by simp; omega) (w3.heap.size + 1) (by simp) ?_; intro g cap w5 hown5 hgrow hat5 hlt5; have g1 := (hgrow.cell_far ⟨wr.heap.size, 1, none⟩ (by simp; omega) NB.out).trans (below_cell f1 ((Below.refl _ w3).alloc (Nat.le_refl _) _)); have g2 := (hgrow.cell_far ⟨wr.heap.size, 2, none⟩ (by simp; omega) NB.out).trans (below_cell f2 ((Below.refl _ w3).alloc (Nat.le_refl _) _)); have g3 := (hgrow.cell_far ⟨wr.heap.size, 3, none⟩ (by simp; omega) NB.out).trans (below_cell f3 ((Below.refl _ w3).alloc (Nat.le_refl _) _)))
        | fail)
      rename_i hHeld
      clear hHeld
      have hs7' := b7.size
      have hin1 : In false (Rg wr.heap.size w3.heap.size) w3 (m + 1) (.agg #[.string (s.a k).gt, .string (s.a k).xt, .slice ub (s.A k).length uq, .slice va sub.length vc]) ts[j] := HIN.out w2 w3 _ _ b7 hs7' (ownA_mono HU.out (by rw [HD.out]; omega)) b3 HV.out
      have b13 : Below wr.heap.size wr w3 := b7.trans (b3.mono hs7')
      have hs13 := b13.size
      have hat' : (Value.slice (some ⟨g, 0, none⟩) (us.length + 1) cap).ownBlock = u5.ownBlock ∨ (Value.slice (some ⟨g, 0, none⟩) (us.length + 1) cap).ownBlock = some (w3.heap.size + 1) := by
        rcases hat5 with h | h
        · exact .inl h.symm
        · exact .inr (by rw [h]; rfl)
      have hels2 := els_step (w := w1) HH.out Hus.out hlt2 Hown.out b13 hin1 hsz _ hgrow hat'
      have hb3 := ((hb.trans (b13.mono hsz)).alloc (by omega) _).grown hgrow (by simp; omega) (fun k hk => (World.ownsRow.lt Hown.out.1 k hk).1)
      have ho2 : OwnV w5 w1.heap.size (.slice (some ⟨g, 0, none⟩) (us.length + 1) cap) (us ++ [.agg #[.string (s.a k).gt, .string (s.a k).xt, .slice ub (s.A k).length uq, .slice va sub.length vc]]) := by
        refine ⟨?_, fours_snoc Hown.out.2 ⟨_, _, _, _, rfl, by intro x hx; simp at hx; rcases hx with rfl | rfl | rfl | rfl <;> rfl⟩⟩
        rw [flat_append, List.length_append]
        exact hown5
      rw [Hus.out] at ho2 hels2
      have hlen3 : (us ++ [Value.agg #[.string (s.a k).gt, .string (s.a k).xt, .slice ub (s.A k).length uq, .slice va sub.length vc]]).length = j + 1 := by rw [List.length_append, Hus.out]; rfl
      obtain ⟨us2, hus2⟩ : ∃ us2, us ++ [Value.agg #[.string (s.a k).gt, .string (s.a k).xt, .slice ub (s.A k).length uq, .slice va sub.length vc]] = us2 := ⟨_, rfl⟩
      rw [hus2] at hels2 ho2 hlen3
      have H2 : Hid (∀ j' (h : j' < us2.length) (h' : j' < ts.length), In false (El w1.heap.size w5.heap.size (.slice (some ⟨g, 0, none⟩) (j + 1) cap)) w5 (m + 1) us2[j'] ts[j']) := fun j h h' => hels2 j h h'
      have HO2 : Hid (OwnV w5 w1.heap.size (.slice (some ⟨g, 0, none⟩) (j + 1) cap) us2) := ho2
      have HL3 : Hid (us2.length = j + 1) := hlen3
      clear hown5 hgrow hat5 hat' hrow1 Hown HH Hus hels2 hus2 hin1 ho2 hlen3 hus' HU HV HIN HC HR NB e1 e2 e3 f1 f2 f3 g1 g2 g3 x1 x2 x3
      go_wp2_with fail
      go_roundw
      case rel => exact ⟨j + 1, us2, by omega, HL3.out, by go_num, HO2.out, H2.out, hb3⟩
      case measure => simp only [intOf]; omega
    · obtain rfl : j = ks.length := by omega
      have hnlt : decide ((ks.length : Int) < (ks.length : Int)) = false := by simp
      have HH : Hid (∀ j (h : j < us.length) (h' : j < ts.length), In false (El w1.heap.size wr.heap.size u5) wr (m + 1) us[j] ts[j]) := hels
      have Hown : Hid (OwnV wr w1.heap.size u5 us) := hown
      have Hus : Hid (us.length = ks.length) := hus
      have bw : Below w.heap.size w wr := hb1.trans (hb.mono hw1)
      clear hels hus hown
      go_wp2_with fail
      go_ret
      have hus := Hus.out.trans HKL.out
      have ho2 := Hown.out
      have hkl := HKL.out
      rcases ho2.1.2 with ⟨h0, h1⟩ | ⟨g, cap2, cur, rfl, _, _, hn2, hm2, _⟩
      · have hl0 : ts = [] := List.eq_nil_of_length_eq_zero (by omega)
        subst hl0
        exact ⟨_, rfl, ⟨none, 0, h0, by simp, by simp, by simp, fun _ => rfl, .inl ⟨rfl, rfl⟩⟩, bw⟩
      · have ho3 := ho2
        rw [hus] at ho3 hn2
        refine ⟨_, rfl, ?_, bw⟩
        try rw [hus]
        refine ⟨some ⟨g, 0, none⟩, cap2, rfl, by omega, hm2, by omega, (fun h => by cases h), .inr ⟨g, 0, rfl, ⟨by have := (ownV_lt ho2).1; omega, (ownV_lt ho2).2⟩, ?_, fun h => by cases h⟩⟩
        intro j hj
        exact ⟨_, ownV_four ho2 j (by omega), (HH.out j (by omega) hj).weak (fun b hS => ⟨by have := hS.1; omega, hS.2.1⟩) false id (m + 1) (Nat.le_refl _)⟩
theorem trs : ∀ m, Trs m
  | 0 => fun x ts w B p gc n q s fv V har hbd hx htr => htr.elim
  | m + 1 => trees_of m (trs m)
end Go.Proofs.Ytnpamcgbnimdkaa.DTrees

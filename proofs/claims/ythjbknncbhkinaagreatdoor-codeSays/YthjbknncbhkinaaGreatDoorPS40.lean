import Derived.Test.YthjbknncbhkinaaGreatDoorPS19
import Derived.Test.YthjbknncbhkinaaGreatDoorPS28
import Derived.Test.YthjbknncbhkinaaGreatDoorPS29
import Derived.Test.YthjbknncbhkinaaGreatDoorPS30
import Derived.Test.YthjbknncbhkinaaGreatDoorPS32
import Derived.Test.YthjbknncbhkinaaGreatDoorPS38
open Go.Proofs.Tryz
set_option linter.unusedVariables false
set_option maxRecDepth 20000
set_option maxHeartbeats 6400000
namespace Go.Proofs.YthjbknncbhkinaaGreatDoor.MDa
open Go.RowKit Base VPk MBx MSe MSf MDo MDq MPl
open VPure
open CPu (Ins nd hnm)
theorem pairs {o : Int} (h1 : 7 <= o) (h2 : o <= 28) : PairOk o := by
  have hc : o = 7 \/ o = 8 \/ o = 9 \/ o = 10 \/ o = 11 \/ o = 12 \/ o = 13 \/ o = 14 \/ o = 15 \/ o = 16 \/ o = 17 \/ o = 18 \/ o = 19 \/ o = 20 \/ o = 21 \/ o = 22 \/ o = 23 \/ o = 24 \/ o = 25 \/ o = 26 \/ o = 27 \/ o = 28 := by omega
  rcases hc with rfl | rfl | rfl | rfl | rfl | rfl | rfl | rfl | rfl | rfl | rfl | rfl | rfl | rfl | rfl | rfl | rfl | rfl | rfl | rfl | rfl | rfl
  · exact VPm.pair7
  · exact VPm.pair8
  · exact VPm.pair9
  · exact VPm.pair10
  · exact VPm.pair11
  · exact VPk.pair12
  · exact VPk.pair13
  · exact VPk.pair14
  · exact VPk.pair15
  · exact VPk.pair16
  · exact VPk.pair17
  · exact VPk.pair18
  · exact VPk.pair19
  · exact VPm.pair20
  · exact VPm.pair21
  · exact VPm.pair22
  · exact VPm.pair23
  · exact VPm.pair24
  · exact VPm.pair25
  · exact VPm.pair26
  · exact VPm.pair27
  · exact VPm.pair28
theorem two_c {K m : Nat} {w : World} {M : Nat} {tv sv pv : Value} {p q : List C} {x y : C} {o a : Int} (h : Mc K (m + 1) w M tv sv pv p) (hq : q.length <= 65536) (hT : TK K w) (h7 : 7 <= o) (h28 : o <= 28) (hwf : wf x)
    (cS : ∀ W, Below w.heap.size w W -> Calls prog 102 #[ptr M, .agg #[.int .i64 o, .int .i64 a]] W fun e w' => SR K (m + 1) M tv sv pv W y (q ++ [x]) e w') :
    Calls prog 82 #[ptr M, .agg #[.int .i64 o, .int .i64 a]] w fun e w' => DR K (m + 1) M tv sv pv w (bnd (pr2 o x y) fun v => .ok (q ++ [v])) e w' := by
  cases hX : pr2 o x y with
  | ok v => exact MDp.pair_ok h hq hT (pairs h7 h28) (by omega) hwf hX cS
  | error n => exact MDr.pair_err h hq hT (pairs h7 h28) (by omega) hwf hX cS
theorem do_all {K m : Nat} {w : World} {M : Nat} {tv sv pv : Value} {p : List C} {T : List ByteArray} {S : List C} {o a : Int} (h : Mc K (m + 1) w M tv sv pv p) (hp : p.length <= 65536) (hT : Tz K w tv T) (hS : Base.InL false (fun b => b < K) w (m + 1) sv S) (hTK : TK K w)
    (h1 : 1 <= o) (h2 : o <= 29) (hn : hnm T.length S.length o a = true) (hd : nd o <= p.length) (ha : -9223372036854775808 <= a /\ a <= 9223372036854775807) (hwf : ∀ c ∈ p, wf c) :
    Calls prog 82 #[ptr M, .agg #[.int .i64 o, .int .i64 a]] w fun e w' => DR K (m + 1) M tv sv pv w (dop T S o a p) e w' := by
  unfold dop
  by_cases e1 : o = 1
  · subst e1; rw [if_pos rfl]; exact do_null h hp
  rw [if_neg e1]
  by_cases e2 : o = 2 \/ o = 3
  · rw [if_pos e2]; exact do_truth h hp e2
  rw [if_neg e2]
  by_cases e4 : o = 4
  · subst e4; rw [if_pos rfl]; exact do_int h hp ha
  rw [if_neg e4]
  by_cases e5 : o = 5
  · subst e5
    rw [if_pos rfl]
    have hk : 0 <= a /\ a < T.length := by simpa [hnm] using hn
    obtain ⟨k, rfl⟩ : ∃ k : Nat, a = k := ⟨a.toNat, by omega⟩
    have hk2 : k < T.length := by omega
    rw [Int.toNat_natCast, List.getD_eq_getElem?_getD, List.getElem?_eq_getElem hk2]
    exact do_text h hp hT hk2
  rw [if_neg e5]
  by_cases e6 : o = 6
  · subst e6
    rw [if_pos rfl]
    have hk : 0 <= a /\ a < S.length := by simpa [hnm] using hn
    obtain ⟨k, rfl⟩ : ∃ k : Nat, a = k := ⟨a.toNat, by omega⟩
    have hk2 : k < S.length := by omega
    rw [Int.toNat_natCast, List.getD_eq_getElem?_getD, List.getElem?_eq_getElem hk2]
    exact do_var h hp hS hk2
  rw [if_neg e6]
  by_cases e29 : o = 29
  · subst e29
    rw [if_pos rfl]
    have : nd 29 = 1 := by decide
    obtain ⟨q, c, rfl⟩ := snoc_of (p := p) (by omega)
    rw [last_snoc]
    exact do_bool h (by simp at hp; omega)
  rw [if_neg e29]
  by_cases hs : o = 7 \/ o = 9 \/ o = 10 \/ o = 11
  · have hnd : nd o = 1 := by rcases hs with rfl | rfl | rfl | rfl <;> decide
    obtain ⟨q, x, rfl⟩ := snoc_of (p := p) (by omega)
    have hq : q.length <= 65536 := by simp at hp; omega
    have hx : wf x := hwf x (by simp)
    have hse : (sec T o a (q ++ [x])).2 = q ++ [x] := by
      unfold sec
      rcases hs with rfl | rfl | rfl | rfl <;> rfl
    rw [hse, last_snoc, drop_snoc]
    refine two_c h hq hTK (by omega) (by omega) hx fun W hW => ?_
    have hlow := h.low
    have hlt := h.lt
    have hTW : Tz K W tv T := hT.below (hW.mono (by omega))
    rcases hs with rfl | rfl | rfl | rfl
    · have hk : 0 <= a /\ a < T.length := by simpa [hnm] using hn
      obtain ⟨k, rfl⟩ : ∃ k : Nat, a = k := ⟨a.toNat, by omega⟩
      have hk2 : k < T.length := by omega
      have := second_text (h.below hW) hTW hk2
      unfold sec
      rw [if_pos rfl, Int.toNat_natCast, List.getD_eq_getElem?_getD, List.getElem?_eq_getElem hk2]
      exact this
    · exact second_num (h.below hW) ha
    · exact second_zero (h.below hW) (.inl rfl)
    · exact second_zero (h.below hW) (.inr rfl)
  · have hnd : nd o = 2 := by
      have a1 : decide (o <= 6) = false := by simp; omega
      have a2 : (o == 33) = false := by simp; omega
      have a3 : ((o == 8) || (decide (12 <= o) && decide (o <= 28))) = true := by
        by_cases h8 : o = 8
        · subst h8; decide
        · have b1 : decide (12 <= o) = true := by simp; omega
          have b2 : decide (o <= 28) = true := by simp; omega
          simp [b1, b2]
      unfold nd
      rw [a1, a2, a3]
      rfl
    obtain ⟨r, y, rfl⟩ := snoc_of (p := p) (by omega)
    obtain ⟨q, x, rfl⟩ := snoc_of (p := r) (by simp at hd; omega)
    have hq : q.length <= 65536 := by simp at hp; omega
    have hx : wf x := hwf x (by simp)
    have hse : sec T o a (q ++ [x] ++ [y]) = (y, q ++ [x]) := by
      unfold sec
      rw [if_neg (by omega), if_neg (by omega), if_neg (by omega), last_snoc, drop_snoc]
    rw [hse]
    dsimp only
    rw [last_snoc, drop_snoc]
    exact two_c h hq hTK (by omega) (by omega) hx fun W hW => second_take (h.below hW) (by simp at hp; simp; omega) (by omega)
end Go.Proofs.YthjbknncbhkinaaGreatDoor.MDa
namespace Go.Proofs.YthjbknncbhkinaaGreatDoor.MHt
open IPure CPu
def Le (H H' : Nat -> Int) : Prop := ∀ k, 0 <= H k -> H' k = H k
theorem Le.refl (H : Nat -> Int) : Le H H := fun _ _ => rfl
theorem Le.trans {A B D : Nat -> Int} (h : Le A B) (k : Le B D) : Le A D := fun j hj => by
  have := h j hj
  rw [k j (by omega), this]
theorem ld_le (H : Nat -> Int) (k : Nat) (x : Int) : Le H (ld H k x) := fun j hj => by
  unfold ld
  split
  · next h =>
    unfold upd
    split
    · next e => subst e; omega
    · rfl
  · rfl
theorem one_le {H H' : Nat -> Int} {k : Nat} {x : Int} (e : one H k x = some H') (hx : 0 <= x) : Le H H' /\ H' k = x := by
  unfold one at e
  split at e
  · next h => cases e; exact ⟨ld_le H k x, ld_at h⟩
  · cases e
theorem both_le {H H' : Nat -> Int} {k k' : Nat} {x x' : Int} (e : both H k x k' x' = some H') (hx : 0 <= x) : Le H H' /\ H' k = x /\ H' k' = x' := by
  unfold both at e
  split at e
  · next h =>
    split at e
    · next h' =>
      cases e
      have h1 : ld H k x k = x := ld_at h
      exact ⟨(ld_le H k x).trans (ld_le _ _ _), (ld_le (ld H k x) k' x' k (by omega)).trans h1, ld_at h'⟩
    · cases e
  · cases e
structure St (n : Nat) (t d : Int) (H : Nat -> Int) (i : Nat) (x : Ins) : Prop where
  pos : 0 <= H i
  fm : fmd x.1 x.2 = true
  nm : hnm t d x.1 x.2 = true
  jp : ijp x.1 = true -> (i : Int) < x.2 /\ x.2 <= (n : Int)
  nd : nd x.1 <= H i
  both : x.1 = 30 \/ x.1 = 31 -> H x.2.toNat = H i /\ H (i + 1) = H i - 1
  els : x.1 = 32 -> H x.2.toNat = H i - 1 /\ H (i + 1) = H i - 1
  jump : x.1 = 33 -> H x.2.toNat = H i
  next : ijp x.1 = false -> H (i + 1) = H i - CPu.nd x.1 + 1
theorem lon_st {H H' Hf : Nat -> Int} {i : Nat} {o a : Int} (hi : 0 <= H i) (e : lon H i o a = some H') (hf : Le H' Hf) : Le H H' /\ CPu.nd o <= H i /\ (o = 30 \/ o = 31 -> Hf a.toNat = H i /\ Hf (i + 1) = H i - 1) /\ (o = 32 -> Hf a.toNat = H i - 1 /\ Hf (i + 1) = H i - 1) /\ (o = 33 -> Hf a.toNat = H i) /\ (ijp o = false -> Hf (i + 1) = H i - CPu.nd o + 1) := by
  have hn := nd_range o
  unfold lon at e
  split at e
  · cases e
  next h1 =>
    split at e
    · next h2 =>
      have hnd : CPu.nd o = 1 := by rcases h2 with rfl | rfl; exact nd30; exact nd31
      obtain ⟨l1, l2, l3⟩ := both_le e (by omega)
      rw [hnd] at h1 l2 l3
      refine ⟨l1, by omega, fun _ => ⟨?_, ?_⟩, fun h => by omega, fun h => by omega, fun h => ?_⟩
      · rw [hf _ (by omega), l2]; omega
      · rw [hf _ (by omega), l3]
      · rcases h2 with rfl | rfl <;> cases h
    · split at e
      · next h2 h3 =>
        subst h3
        obtain ⟨l1, l2, l3⟩ := both_le e (by omega)
        rw [nd32] at h1 l2 l3
        refine ⟨l1, by rw [nd32]; omega, fun h => by omega, fun _ => ⟨?_, ?_⟩, fun h => by omega, fun h => by cases h⟩
        · rw [hf _ (by omega), l2]
        · rw [hf _ (by omega), l3]
      · split at e
        · next h2 h3 h4 =>
          subst h4
          obtain ⟨l1, l2⟩ := one_le e (by omega)
          rw [nd33] at h1 l2
          refine ⟨l1, by rw [nd33]; omega, fun h => by omega, fun h => by omega, fun _ => ?_, fun h => by cases h⟩
          rw [hf _ (by omega), l2]; omega
        · next h2 h3 h4 =>
          obtain ⟨l1, l2⟩ := one_le e (by omega)
          refine ⟨l1, by omega, fun h => absurd h h2, fun h => absurd h h3, fun h => absurd h h4, fun _ => ?_⟩
          rw [hf _ (by omega), l2]
theorem fls_st {n : Nat} {t d : Int} : ∀ (r : List Ins) (H : Nat -> Int) (i : Nat), fls n t d H i r = 0 -> ∃ Hf, Le H Hf /\ Hf n = 1 /\ ∀ j (h : j < r.length), St n t d Hf (i + j) r[j]
  | [], H, i, h => by
    rw [fls] at h
    split at h
    · next h1 => exact ⟨H, Le.refl H, h1, fun j hj => by cases hj⟩
    · cases h
  | x :: r, H, i, h => by
    rw [fls] at h
    cases e : fl n t d H i x with
    | error c =>
      rw [e] at h
      have h : c = 0 := h
      subst h
      unfold fl at e
      split at e
      · cases e
      split at e
      · cases e
      split at e
      · cases e
      split at e
      · cases e
      split at e
      · cases e
      · cases e
    | ok H' =>
      rw [e] at h
      have h : fls n t d H' (i + 1) r = 0 := h
      obtain ⟨Hf, hle, h1, hst⟩ := fls_st r H' (i + 1) h
      unfold fl at e
      split at e
      · cases e
      split at e
      · cases e
      split at e
      · cases e
      split at e
      · cases e
      next g1 g2 g3 g4 =>
        split at e
        · cases e
        · next H'' hl =>
          cases e
          obtain ⟨q1, q2, q3, q4, q5, q6⟩ := lon_st (by omega) hl hle
          have hfi : Hf i = H i := q1.trans hle i (by omega)
          refine ⟨Hf, q1.trans hle, h1, fun j hj => ?_⟩
          cases j with
          | zero =>
            have key : St n t d Hf i x := ⟨by rw [hfi]; omega, by simpa using g2, by simpa using g3, fun hj2 => by
              have hx : ¬ (x.2 <= (i : Int) \/ (n : Int) < x.2) := fun hh => g4 ⟨hj2, hh⟩
              omega, by rw [hfi]; exact q2, by rw [hfi]; exact q3, by rw [hfi]; exact q4, by rw [hfi]; exact q5, by rw [hfi]; exact q6⟩
            exact key
          | succ j =>
            have := hst j (by simpa using hj)
            rw [show i + 1 + j = i + (j + 1) by omega] at this
            simpa using this
theorem ck_st {L : List Ins} {t d : Int} (h : ck L t d = 0) : L.length <= 8192 /\ ∃ H, H 0 = 0 /\ H L.length = 1 /\ ∀ j (h : j < L.length), St L.length t d H j L[j] := by
  unfold ck at h
  split at h
  · cases h
  · next h8 =>
    obtain ⟨Hf, h1, h2, h3⟩ := fls_st L h0 0 h
    refine ⟨by omega, Hf, ?_, h2, fun j hj => by have := h3 j hj; rwa [Nat.zero_add] at this⟩
    rw [h1 0 (by decide)]
    rfl
end Go.Proofs.YthjbknncbhkinaaGreatDoor.MHt
namespace Go.Proofs.YthjbknncbhkinaaGreatDoor.MRg
open Go.RowKit Base VSm VRs MBx MSe MDo MPl MSt
open VPure
open CPu (Ins nd hnm fmd ijp nd30 nd31 nd32 nd33)
open CBx (Cx cell_keep)
open MHt (St)
theorem dop_wf {T : List ByteArray} {S : List C} {o a : Int} {p p' : List C} (hS : ∀ c ∈ S, wf c) (hp : ∀ c ∈ p, wf c) (h : dop T S o a p = .ok p') : ∀ c ∈ p', wf c := by
  have hz : wf zerC := wf_one (by decide)
  have ext : ∀ {q : List C} {c : C}, (∀ c ∈ q, wf c) -> wf c -> ∀ d ∈ q ++ [c], wf d := fun hq hc d hd => by
    rcases List.mem_append.1 hd with h | h
    · exact hq d h
    · rw [List.mem_singleton.1 h]; exact hc
  unfold dop at h
  split at h
  · cases h; exact ext hp (wf_one (by decide))
  split at h
  · cases h; exact ext hp (wf_one (by decide))
  split at h
  · cases h; exact ext hp (wf_one (by decide))
  split at h
  · cases h; exact ext hp (wf_one (by decide))
  split at h
  · cases h
    refine ext hp ?_
    rw [List.getD_eq_getElem?_getD]
    cases e : S[a.toNat]? with
    | none => exact hz
    | some c => exact hS c (List.mem_of_getElem? e)
  split at h
  · split at h
    · cases h; exact hp
    · cases h
  have hl : ∀ q : List C, (∀ c ∈ q, wf c) -> wf (q.getLastD zerC) := fun q hq => by
    cases e : q.getLast? with
    | none => rw [List.getLastD_eq_getLast?, e]; exact hz
    | some c => rw [List.getLastD_eq_getLast?, e]; exact hq c (List.mem_of_getLast? e)
  have hsq : ∀ c ∈ (sec T o a p).2, wf c := by
    intro c hc
    unfold sec at hc
    split at hc
    · exact hp c hc
    split at hc
    · exact hp c hc
    split at hc
    · exact hp c hc
    · exact hp c ((List.dropLast_sublist _).subset hc)
  cases e : pr2 o ((sec T o a p).2.getLastD zerC) (sec T o a p).1 with
  | error n => rw [e] at h; cases h
  | ok v =>
    rw [e] at h
    have h : (Except.ok ((sec T o a p).2.dropLast ++ [v]) : Except Nat (List C)) = .ok p' := h
    cases h
    exact ext (fun c hc => hsq c ((List.dropLast_sublist _).subset hc)) (pr2_wf (hl _ hsq) e)
def RA (K m M : Nat) (pv : Value) (w : World) (R : Except Nat C) (e : Ending) (w' : World) : Prop := match R with
  | .ok r => ∃ u, e = .returned u /\ Base.In false (fun b => b < K) w' m u r /\ Km M pv w w'
  | .error n => e = .panicked (pkE n) /\ Km M pv w w'
theorem fm_range {o a : Int} (h : fmd o a = true) : 1 <= o /\ o <= 33 := by
  by_cases hr : 1 <= o /\ o <= 33
  · exact hr
  · have b : ∀ k : Int, 1 <= k -> k <= 33 -> (o == k) = false := fun k h1 h2 => by simp; omega
    have b1 : (decide (1 <= o) && decide (o <= 33)) = false := by simp; omega
    simp [fmd, b, b1] at h
theorem run_c {K m : Nat} {w : World} {M : Nat} {tv sv pv0 cv : Value} {L : List Ins} {T : List ByteArray} {S : List C} {H : Nat -> Int} (hv : Cx K w cv L) (h : Mc K (m + 1) w M tv sv pv0 []) (hn : L.length <= 8192) (hT : Tz K w tv T) (hS : Base.InL false (fun b => b < K) w (m + 1) sv S) (hTK : TK K w) (hSw : ∀ c ∈ S, wf c) (hOk : ∀ x ∈ L, -9223372036854775808 <= x.2 /\ x.2 <= 9223372036854775807)
    (h0 : H 0 = 0) (h1 : H L.length = 1) (hst : ∀ j (h : j < L.length), St L.length T.length S.length H j L[j]) :
    Calls prog 66 #[ptr M, cv] w fun e w' => RA K (m + 1) M pv0 w (mrun L T S L.length 0 []) e w' := by
  have HV : Hid (Cx K w cv L) := hv
  obtain ⟨a, cap, rfl, hl, hm, hnil, hL⟩ := hv
  clear hL hnil
  obtain ⟨R, hR⟩ : ∃ R, mrun L T S L.length 0 [] = R := ⟨_, rfl⟩
  rw [hR]
  obtain ⟨n, hnn⟩ : ∃ n, L.length = n := ⟨_, rfl⟩
  have HN : Hid (L.length = n) := hnn
  rw [hnn] at hl hn h1 hR ⊢
  obtain ⟨W0, hW0⟩ : ∃ W0, w.alloc (.cells #[.int .i64 0, .bool false, .int .i64 0, .string ⟨#[]⟩, .slice none 0 0, .slice none 0 0] 46) = W0 := ⟨_, rfl⟩
  have b0 : Below w.heap.size w W0 := by rw [<- hW0]; exact (Below.refl _ w).alloc (Nat.le_refl _) _
  have s0 : W0.heap.size = w.heap.size + 1 := by rw [<- hW0]; simp
  have x0 : W0.heap[w.heap.size]? = some (.cells #[.int .i64 0, .bool false, .int .i64 0, .string ⟨#[]⟩, .slice none 0 0, .slice none 0 0] 46 (0, 0)) := by rw [<- hW0]; exact heap_alloc_new w _
  have hlt := h.lt
  have hlow := h.low
  have HB0 : Hid (Km M pv0 w W0) := Km.of_below b0 (by omega)
  have HM0 : Hid _ := h.below b0
  have HX0 : Hid _ := x0
  have HP0 : Hid (some w.heap.size ≠ pv0.ownBlock) := fun e => by have := h.own_ne e.symm; omega
  have HST : Hid (∀ j (h : j < L.length), St L.length T.length S.length H j L[j]) := hst
  have HR : Hid (mrun L T S n 0 [] = R) := hR
  have HTT : Hid (Tz K w tv T) := hT
  have HSS : Hid (Base.InL false (fun b => b < K) w (m + 1) sv S) := hS
  have HTK : Hid (TK K w) := hTK
  have HSW : Hid (∀ c ∈ S, wf c) := hSw
  have HOK : Hid (∀ x ∈ L, -9223372036854775808 <= x.2 /\ x.2 <= 9223372036854775807) := hOk
  have HH0 : Hid (H 0 = 0) := h0
  have HH1 : Hid (H n = 1) := h1
  clear h b0 x0 hnn hst hR hT hS hTK hSw hOk h0 h1
  go_enter func66, ntmps66
  go_wp2_with fail
  try rw [hW0]
  go_step3
  go_wp2_with fail
  go_step3
  go_wp2_with fail
  try rw [hW0]
  go_loopg [5] n (fun g i wr => ∃ (q f : Nat) (p : List C) (pv : Value), q + g = n /\ i = .int .i64 q /\ Mc K (m + 1) wr M tv sv pv p /\ (Km M pv0 w wr /\ (pv.ownBlock = pv0.ownBlock \/ ∃ g, pv.ownBlock = some g /\ w.heap.size <= g)) /\ some w.heap.size ≠ pv.ownBlock /\ w.heap.size < wr.heap.size /\ wr.heap[w.heap.size]? = some (.cells #[.int .i64 0, .bool false, .int .i64 0, .string ⟨#[]⟩, .slice none 0 0, .slice none 0 0] 46 (0, 0)) /\ ((p.length : Int) = H q /\ n <= q + f /\ (∀ c ∈ p, wf c) /\ p.length <= q /\ mrun L T S f q p = R))
  case atStart => exact ⟨0, n, [], pv0, by omega, rfl, HM0.out, ⟨HB0.out, .inl rfl⟩, HP0.out, by omega, HX0.out, by rw [HH0.out]; rfl, by omega, fun c hc => (by cases hc), by simp, HR.out⟩
  case round =>
    clear HM0 HB0 HP0 HX0 HR
    obtain ⟨q, f, p, pv, hg, rfl, hmc, ⟨hB, hpe⟩, hpn, hsz, hx, hpl⟩ := hrel
    have HPL : Hid ((p.length : Int) = H q /\ n <= q + f /\ (∀ c ∈ p, wf c) /\ p.length <= q /\ mrun L T S f q p = R) := hpl
    have HPE : Hid (pv.ownBlock = pv0.ownBlock \/ ∃ g, pv.ownBlock = some g /\ w.heap.size <= g) := hpe
    have HKM : Hid (Km M pv0 w wr) := hB
    have hB := hB.below
    have HM : Hid (Mc K (m + 1) wr M tv sv pv p) := hmc
    have HB : Hid (Below M w wr) := hB
    have HPN : Hid (some w.heap.size ≠ pv.ownBlock) := hpn
    have HX : Hid _ := hx
    clear hmc hB hpn hx hpe hpl
    by_cases hlq : q < n
    · have d0 : decide ((q : Int) < (n : Int)) = true := by simp; omega
      obtain ⟨aa, cc, hsl, -, -, -, hL⟩ := HV.out
      cases hsl
      have hlL : q < L.length := by rw [HN.out]; exact hlq
      obtain ⟨g1, og, rfl, hg1, hc⟩ : ∃ g o, a = some ⟨g, o, none⟩ /\ g < K /\ ∀ j (h : j < L.length), w.cell? ⟨g, o + j * 2, none⟩ = some (.int .i64 L[j].1) /\ w.cell? ⟨g, o + j * 2 + 1, none⟩ = some (.int .i64 L[j].2) := by
        rcases hL with rfl | hL
        · simp at hlL
        · exact hL
      obtain ⟨k0, k1⟩ := hc q hlL
      have k0 := cell_keep (by omega : g1 < M) k0 HB.out
      have k1 := cell_keep (by omega : g1 < M) k1 HB.out
      have hsq := HST.out q hlL
      have hok := HOK.out L[q] (List.getElem_mem _)
      obtain ⟨z1, z2, z3, z4, z5⟩ := HPL.out
      obtain ⟨f', rfl⟩ : ∃ f', f = f' + 1 := ⟨f - 1, by omega⟩
      rw [mrun, List.getElem?_eq_getElem hlL] at z5
      rw [HN.out] at hsq
      clear hc hL HPL
      generalize L[q] = x at *
      obtain ⟨o, a⟩ := x
      dsimp only at k0 k1 hok z5
      have HSQ : Hid (St n T.length S.length H q (o, a)) := hsq
      have HZ5 : Hid (bnd (ins T S q (o, a) p) (fun r => mrun L T S f' r.1 r.2) = R) := z5
      have HZ : Hid ((p.length : Int) = H q /\ (∀ c ∈ p, wf c) /\ p.length <= q) := ⟨z1, z3, z4⟩
      have HOA : Hid (-9223372036854775808 <= a /\ a <= 9223372036854775807) := hok
      obtain ⟨W4, hW4, b4, s4, x4⟩ := box1 wr (.int .i64 o) (.int .i64 a)
      obtain ⟨e0, e1⟩ := two_box x4
      have HB4 : Hid (Below wr.heap.size wr W4) := b4
      have HX4 : Hid _ := x4
      have hw1 : IntKind.i64.wrap ((q : Int) + 1) = (q : Int) + 1 := by rw [IntKind.wrap_i64]; omega
      have HM4 : Hid (Mc K (m + 1) W4 M tv sv pv p) := HM.out.below b4
      have HKE : Hid (Km M pv0 w W4) := HKM.out.trans (Km.of_below (pv := pv) b4 (by omega)) HPE.out
      -- what is the same behind a method of the machine
      have HGO : Hid (∀ (W5 : World) (pv5 : Value), Km M pv W4 W5 -> (pv5.ownBlock = pv.ownBlock \/ ∃ g, pv5.ownBlock = some g /\ W4.heap.size <= g) -> (Km M pv0 w W5 /\ (pv5.ownBlock = pv0.ownBlock \/ ∃ g, pv5.ownBlock = some g /\ w.heap.size <= g)) /\ some w.heap.size ≠ pv5.ownBlock /\ w.heap.size < W5.heap.size /\ W5.heap[w.heap.size]? = some (.cells #[.int .i64 0, .bool false, .int .i64 0, .string ⟨#[]⟩, .slice none 0 0, .slice none 0 0] 46 (0, 0))) := fun W5 pv5 k5 e5 => by
        have h1 := k5.below.size
        refine ⟨⟨HKE.out.trans k5 HPE.out, ?_⟩, ?_, by omega, ?_⟩
        · rcases e5 with e | ⟨g, e, hg⟩
          · rw [e]; exact HPE.out
          · exact .inr ⟨g, e, by omega⟩
        · rcases e5 with e | ⟨g, e, hg⟩
          · rw [e]; exact HPN.out
          · rw [e]
            intro e2
            have := Option.some.inj e2
            omega
        · rw [k5.other w.heap.size (by omega) (by omega) HPN.out, HB4.out.block _ hsz, HX.out]
      have hIX : Hid (∀ W5, Km M pv W4 W5 -> W5.cell? ⟨wr.heap.size, 0, none⟩ = some (.int .i64 o) /\ W5.cell? ⟨wr.heap.size, 1, none⟩ = some (.int .i64 a)) := fun W5 k5 => two_box ((k5.other wr.heap.size (by omega) (by omega) (fun e => by have := HM.out.own_ne e.symm; omega)).trans HX4.out)
      have hpq : p.length <= 65536 := by omega
      have hrg := fm_range hsq.fm
      clear hsq z5 z1 z3 z4 hok x4 b4
      by_cases hjp : ijp o = false
      · have ho29 : o <= 29 := by simp [ijp] at hjp; omega
        have cD := MDa.do_all HM4.out hpq (HTT.out.below ((HB.out.mono hlow).trans (HB4.out.mono (by omega)))) (HSS.out.keep fun b hb _ => ((HB.out.mono hlow).trans (HB4.out.mono (by omega))).block b hb) (HTK.out.below ((HB.out.mono hlow).trans (HB4.out.mono (by omega)))) hrg.1 ho29 HSQ.out.nm (by rw [HZ.out.1]; exact HSQ.out.nd) HOA.out HZ.out.2.1
        have d30 : (o == 30) = false := by simp; omega
        have d31 : (o == 31) = false := by simp; omega
        have d32 : (o == 32) = false := by simp; omega
        have d33 : (o == 33) = false := by simp; omega
        have HIN : Hid (bnd (dop T S o a p) (fun p' => mrun L T S f' (q + 1) p') = R) := by
          have := HZ5.out
          unfold ins at this
          dsimp only at this
          rw [if_neg (by omega), if_neg (by omega), if_neg (by omega)] at this
          cases e : dop T S o a p with
          | error n => rw [e] at this; exact this
          | ok p' => rw [e] at this; exact this
        have HDL : Hid (∀ p', dop T S o a p = .ok p' -> (p'.length : Int) = H (q + 1) /\ (∀ c ∈ p', wf c) /\ p'.length <= q + 1) := fun p' hp' => by
          have h1 : (p'.length : Int) = p.length - nd o + 1 := dop_len hrg.1 ho29 (by rw [HZ.out.1]; exact HSQ.out.nd) hp'
          have h2 : H (q + 1) = H q - CPu.nd o + 1 := HSQ.out.next hjp
          obtain ⟨h3, h5, h6⟩ := HZ.out
          have h4 := CPu.nd_range o
          exact ⟨by rw [h2, h1, h3], dop_wf HSW.out h5 hp', by omega⟩
        obtain ⟨X, hX⟩ : ∃ X, dop T S o a p = X := ⟨_, rfl⟩
        rw [hX] at cD
        have HXX : Hid (dop T S o a p = X) := hX
        clear hX hjp ho29 hrg
        go_wp2_with fail
        try rw [hW4]
        refine cD.mono ?_
        rintro e W5 hD
        clear cD e0 e1 k0 k1
        cases X with
        | error c =>
          obtain ⟨rfl, b5⟩ := hD
          have hR := HIN.out
          rw [HXX.out] at hR
          have hR : (Except.error c : Except Nat C) = R := hR
          subst hR
          exact ⟨rfl, rfl, HKE.out.trans b5 HPE.out⟩
        | ok p' =>
          obtain ⟨⟨v5, rfl⟩, pv5, m5, k5, e5⟩ := hD
          have HE : Hid _ := HGO.out W5 pv5 k5 e5
          have HM5 : Hid _ := m5
          have hR := HIN.out
          rw [HXX.out] at hR
          have HRR : Hid (mrun L T S f' (q + 1) p' = R) := hR
          clear m5 k5 e5 hR
          go_wp2_with fail
          go_roundg (n - (q + 1))
          case rel =>
            obtain ⟨y1, y2, y3⟩ := HDL.out p' HXX.out
            obtain ⟨y4, y5, y6, y7⟩ := HE.out
            exact ⟨q + 1, f', p', pv5, by omega, by go_num, HM5.out, y4, y5, y6, y7, y1, by omega, y2, y3, HRR.out⟩
          case measure => omega
      · have hjp : ijp o = true := by cases e : ijp o <;> simp_all
        obtain ⟨k, rfl, hk1, hk2⟩ : ∃ k : Nat, a = k /\ q < k /\ k <= n := by
          have := HSQ.out.jp hjp
          exact ⟨a.toNat, by omega, by omega, by omega⟩
        have ho : o = 30 \/ o = 31 \/ o = 32 \/ o = 33 := by simp [ijp] at hjp; omega
        have hA : ∀ W5, Km M pv W4 W5 -> W5.cell? ⟨wr.heap.size, 1, none⟩ = some (.int .i64 (k : Nat)) := fun W5 k5 => (hIX.out W5 k5).2
        have HAA : Hid _ := hA
        clear hA hjp hrg
        by_cases h33 : o = 33
        · subst h33
          have HRR : Hid (mrun L T S f' k p = R) := by
            have := HZ5.out
            unfold ins at this
            dsimp only at this
            rw [if_neg (by decide), if_neg (by decide), if_pos rfl, Int.toNat_natCast] at this
            exact this
          have HE : Hid _ := HGO.out W4 pv (Km.of_below (Below.refl _ _) (by omega)) (.inl rfl)
          have hj := HSQ.out.jump rfl
          dsimp only at hj
          rw [Int.toNat_natCast] at hj
          have HJ : Hid (H k = H q) := hj
          clear hj ho
          go_wp2_with fail
          try rw [hW4]
          go_roundg (n - k)
          case rel =>
            obtain ⟨y1, y2, y3⟩ := HZ.out
            obtain ⟨y4, y5, y6, y7⟩ := HE.out
            exact ⟨k, f', p, pv, by omega, rfl, HM4.out, y4, y5, y6, y7, by rw [HJ.out]; exact y1, by omega, y2, by omega, HRR.out⟩
          case measure => omega
        have hnd : nd o = 1 := by
          have : o = 30 \/ o = 31 \/ o = 32 := by omega
          rcases this with rfl | rfl | rfl <;> decide
        obtain ⟨q0, c, rfl⟩ := snoc_of (p := p) (by have h1 := HZ.out.1; have h2 := HSQ.out.nd; dsimp only at h2; omega)
        have hq0 : q0.length <= 65536 := by simp at hpq; omega
        have hwc : Hid ((∀ d ∈ q0, wf d) /\ (q0.length : Int) + 1 = H q /\ q0.length + 1 <= q) := by
          obtain ⟨y1, y2, y3⟩ := HZ.out
          simp at y1 y3
          exact ⟨fun d hd => y2 d (by simp [hd]), by omega, by omega⟩
        by_cases h32 : o = 32
        · subst h32
          have cT := take_c HM4.out hq0
          have hel := HSQ.out.els rfl
          dsimp only at hel
          rw [Int.toNat_natCast] at hel
          have HEL : Hid (H k = H q - 1 /\ H (q + 1) = H q - 1) := hel
          have HRR : Hid ((if c.k = 2 then mrun L T S f' (if c.b = true then q + 1 else k) q0 else .error 1101) = R) := by
            have := HZ5.out
            unfold ins at this
            dsimp only at this
            rw [if_neg (by decide), if_pos rfl, last_snoc, drop_snoc, Int.toNat_natCast] at this
            by_cases hk : c.k = 2
            · rw [if_pos hk] at this ⊢; exact this
            · rw [if_neg hk] at this ⊢; exact this
          clear hel ho h33 hnd
          go_wp2_with fail
          try rw [hW4]
          refine cT.mono ?_
          rintro e W5 ⟨u, pv5, rfl, hin, m5, k5, e5⟩
          obtain ⟨an, ln, cn, al, ll, cl, rfl⟩ := in_shape hin
          have cI := isTrue_c c.k c.b c.i c.s (.slice an ln cn) (.slice al ll cl) W5
          have HM5 : Hid _ := m5
          have HK5 : Hid (Km M pv W4 W5) := k5
          have HE5 : Hid (pv5.ownBlock = pv.ownBlock) := e5
          clear cT hin m5 k5 e5 e0 e1 k0 k1
          by_cases hk : c.k = 2
          · rw [if_pos hk] at cI
            have hR := HRR.out
            rw [if_pos hk] at hR
            obtain ⟨B, hB⟩ : ∃ B, c.b = B := ⟨_, rfl⟩
            rw [hB] at cI hR ⊢
            have HR2 : Hid _ := hR
            clear hk hR hB
            go_wp2_with fail
            refine cI.mono ?_
            rintro e W6 ⟨rfl, b6⟩
            have hk6 : Km M pv W4 W6 := HK5.out.trans (Km.of_below (pv := pv5) b6 (by have := HK5.out.below.size; omega)) (.inl HE5.out)
            have HE : Hid _ := HGO.out W6 pv5 hk6 (.inl HE5.out)
            have HM6 : Hid _ := HM5.out.below b6
            have n1 := HAA.out W6 hk6
            clear cI b6 hk6
            cases B with
            | true =>
              have HR3 : Hid (mrun L T S f' (q + 1) q0 = R) := HR2.out
              clear n1
              go_wp2_with fail
              go_roundg (n - (q + 1))
              case rel =>
                obtain ⟨y1, y2, y3⟩ := hwc.out
                obtain ⟨y4, y5, y6, y7⟩ := HE.out
                exact ⟨q + 1, f', q0, pv5, by omega, by go_num, HM6.out, y4, y5, y6, y7, by rw [HEL.out.2]; omega, by omega, y1, by omega, HR3.out⟩
              case measure => omega
            | false =>
              have HR3 : Hid (mrun L T S f' k q0 = R) := HR2.out
              go_wp2_with fail
              go_roundg (n - k)
              case rel =>
                obtain ⟨y1, y2, y3⟩ := hwc.out
                obtain ⟨y4, y5, y6, y7⟩ := HE.out
                exact ⟨k, f', q0, pv5, by omega, rfl, HM6.out, y4, y5, y6, y7, by rw [HEL.out.1]; omega, by omega, y1, by omega, HR3.out⟩
              case measure => omega
          · rw [if_neg hk] at cI
            have hR := HRR.out
            rw [if_neg hk] at hR
            subst hR
            clear hk
            go_wp2_with fail
            refine cI.mono ?_
            rintro e W6 ⟨rfl, b6⟩
            exact ⟨rfl, rfl, (HKE.out.trans HK5.out HPE.out).trans (Km.of_below (pv := pv0) b6 (by have := HK5.out.below.size; omega)) (.inl rfl)⟩
        · have h3 : o = 30 \/ o = 31 := by omega
          have hbo := HSQ.out.both h3
          dsimp only at hbo
          rw [Int.toNat_natCast] at hbo
          have HBO : Hid (H k = H q /\ H (q + 1) = H q - 1) := hbo
          have HRR : Hid ((if c.k = 2 then (if c.b = decide (o = 31) then mrun L T S f' k (q0 ++ [c]) else mrun L T S f' (q + 1) q0) else .error 1101) = R) := by
            have := HZ5.out
            unfold ins at this
            dsimp only at this
            rw [if_pos h3, last_snoc, drop_snoc, Int.toNat_natCast] at this
            by_cases hk : c.k = 2
            · rw [if_pos hk] at this ⊢
              by_cases hb : c.b = decide (o = 31)
              · rw [if_pos hb] at this ⊢; exact this
              · rw [if_neg hb] at this ⊢; exact this
            · rw [if_neg hk] at this ⊢; exact this
          obtain ⟨b1, b2, hb1, hb2, hbb⟩ : ∃ b1 b2, (o == 30) = b1 /\ (o == 31) = b2 /\ (b1 || b2) = true := ⟨_, _, rfl, rfl, by rcases h3 with rfl | rfl <;> decide⟩
          have HD31 : Hid (decide (o = 31) = b2) := by show _ = _; rw [<- hb2]; rfl
          clear hbo ho h33 hnd h32 h3
          by_cases hk : c.k = 2
          · have cS := settles_ok (o := o) (a := (k : Int)) HM4.out hq0 hk
            have hR := HRR.out
            rw [if_pos hk, HD31.out] at hR
            rw [hb2] at cS
            obtain ⟨B, hB⟩ : ∃ B, c.b = B := ⟨_, rfl⟩
            rw [hB] at cS hR
            have HR2 : Hid ((if B = b2 then mrun L T S f' k (q0 ++ [c]) else mrun L T S f' (q + 1) q0) = R) := hR
            clear hk hR hB
            cases b1 <;> cases b2 <;> first | (cases hbb; done) | skip
            all_goals
              clear hbb
              go_wp2_with fail
              try rw [hW4]
              refine cS.mono ?_
              rintro e W5 ⟨rfl, pv5, m5, k5, e5⟩
              have HE : Hid _ := HGO.out W5 pv5 k5 (.inl e5)
              have n1 := HAA.out W5 k5
              have hR := HR2.out
              clear cS k5 e5
              cases B
              all_goals
                first
                | (rw [if_pos (by decide)] at hR
                   rw [if_pos (by decide)] at m5
                   have HM5 : Hid _ := m5
                   have HR3 : Hid _ := hR
                   clear m5 hR
                   go_wp2_with fail
                   go_roundg (n - k)
                   case rel =>
                     obtain ⟨y1, y2, y3⟩ := HZ.out
                     obtain ⟨y4, y5, y6, y7⟩ := HE.out
                     exact ⟨k, f', q0 ++ [c], pv5, by omega, rfl, HM5.out, y4, y5, y6, y7, by rw [HBO.out.1]; exact y1, by omega, y2, by omega, HR3.out⟩
                   case measure => omega)
                | (rw [if_neg (by decide)] at hR
                   rw [if_neg (by decide)] at m5
                   have HM5 : Hid _ := m5
                   have HR3 : Hid _ := hR
                   clear m5 hR n1
                   go_wp2_with fail
                   go_roundg (n - (q + 1))
                   case rel =>
                     obtain ⟨y1, y2, y3⟩ := hwc.out
                     obtain ⟨y4, y5, y6, y7⟩ := HE.out
                     exact ⟨q + 1, f', q0, pv5, by omega, by go_num, HM5.out, y4, y5, y6, y7, by rw [HBO.out.2]; omega, by omega, y1, by omega, HR3.out⟩
                   case measure => omega)
          · have cS := settles_err (o := o) (a := (k : Int)) HM4.out hq0 hk
            have hR := HRR.out
            rw [if_neg hk] at hR
            subst hR
            clear hk
            cases b1 <;> cases b2 <;> first | (cases hbb; done) | skip
            all_goals
              clear hbb
              go_wp2_with fail
              try rw [hW4]
              refine cS.mono ?_
              rintro e W5 ⟨rfl, b5⟩
              exact ⟨rfl, rfl, HKE.out.trans b5 HPE.out⟩
    · have d0 : decide ((q : Int) < (n : Int)) = false := by simp; omega
      obtain rfl : q = n := by omega
      obtain ⟨z1, z2, z3, z4, z5⟩ := HPL.out
      rw [HH1.out] at z1
      obtain ⟨q0, r, rfl⟩ := snoc_of (p := p) (by omega)
      have hq0 : q0 = [] := List.eq_nil_of_length_eq_zero (by simp at z1; omega)
      subst hq0
      have hRr : R = .ok r := by
        rw [<- z5]
        cases f with
        | zero => rw [mrun]; rfl
        | succ f =>
          rw [mrun, List.getElem?_eq_none (by rw [HN.out]; exact Nat.le_refl _)]
          rfl
      subst hRr
      have cT := take_c (K := K) (m := m + 1) (w := wr) (M := M) (tv := tv) (sv := sv) (pv := pv) (q := []) (c := r) HM.out (by simp)
      clear z1 z2 z3 z4 z5
      go_wp2_with fail
      refine cT.mono ?_
      rintro e W1 ⟨u, pv1, rfl, hin, m1, k1, e1⟩
      obtain ⟨an, ln, cn, al, ll, cl, rfl⟩ := in_shape hin
      have y1 := (k1.other w.heap.size hsz (by omega) HPN.out).trans HX.out
      obtain ⟨W9, hW9⟩ : ∃ W9, (((((W1.setCell ⟨w.heap.size, 0, none⟩ (.int .i64 r.k)).setCell ⟨w.heap.size, 1, none⟩ (.bool r.b)).setCell ⟨w.heap.size, 2, none⟩ (.int .i64 r.i)).setCell ⟨w.heap.size, 3, none⟩ (.string r.s)).setCell ⟨w.heap.size, 4, none⟩ (.slice an ln cn)).setCell ⟨w.heap.size, 5, none⟩ (.slice al ll cl) = W9 := ⟨_, rfl⟩
      obtain ⟨q1, q2, q3, q4⟩ := set6 _ _ _ _ _ _ y1 hW9
      have HE : Hid (RA K (m + 1) M pv0 w (.ok r) (.returned (vl r.k r.b r.i r.s (.slice an ln cn) (.slice al ll cl))) W9) := by
        have hk := HKM.out.trans k1 HPE.out
        exact ⟨_, rfl, hin.keep fun b hb _ => q2 b (by have : b < K := hb; omega), q4 _ _ (by omega) hk.below, fun b hb h1 h2 => (q2 b (by omega)).trans (hk.other b hb h1 h2)⟩
      have HQ1 : Hid _ := q1
      obtain ⟨v0', v1', v2', v3', v4', v5'⟩ := six_box y1
      have g0 := frozen_box y1 0
      have g1 := frozen_box y1 1
      have g2 := frozen_box y1 2
      have g3 := frozen_box y1 3
      have g4 := frozen_box y1 4
      have g5 := frozen_box y1 5
      clear hin m1 k1 e1 y1 q1 q2 q3 q4 cT
      go_wp2_with fail
      try rw [hW9]
      try rw [Exit.noGoto_ret]
      refine bodyPost_ret (results_cell_row rfl _ W9 w.heap.size 46 _ (0, 0) _ rfl HQ1.out underlying46 rfl (by kernel_rfl)) rfl ?_
      exact HE.out
end Go.Proofs.YthjbknncbhkinaaGreatDoor.MRg

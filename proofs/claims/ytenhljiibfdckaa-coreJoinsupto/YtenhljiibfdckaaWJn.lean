/- The walk of CoreJoins (stencillaw15). -/
import Derived.Test.YtenhljiibfdckaaKJq
import Derived.Test.YtenhljiibfdckaaKRj
import Derived.Test.YtenhljiibfdckaaKSx
import Derived.Test.YtenhljiibfdckaaKAw
import Derived.Laws.AppendOwnNone
namespace Go.Proofs.Ytenhljiibfdckaa.WJn
open Go.RowKit Go.Proofs.Ytenhljiibfdckaa.Base Go.Proofs.Ytenhljiibfdckaa.EPure Go.Proofs.Ytenhljiibfdckaa.KBase Go.Proofs.Ytenhljiibfdckaa.KAr Go.Proofs.Ytenhljiibfdckaa.KLe Go.Proofs.Ytenhljiibfdckaa.KNd Go.Proofs.Ytenhljiibfdckaa.KVp Go.Proofs.Ytenhljiibfdckaa.KSt Go.Proofs.Ytenhljiibfdckaa.KAwP Go.Proofs.Ytenhljiibfdckaa.KAw Go.Proofs.Ytenhljiibfdckaa.KJq
open Go.Proofs.Ytenhljiibfdckaa.XLend (flat)
set_option linter.unusedVariables false

theorem st_bd : ∀ (m : Nat) (cs : List Co) (n : Nat), SizeOf.sizeOf cs ≤ m → ∀ x ∈ (stL cs n).2, (n : Int) ≤ x ∧ x < n + szL cs := by
  intro m
  induction m with
  | zero =>
    intro cs n h
    cases cs with
    | nil => rw [stL_nil]; intro x hx; cases hx
    | cons c t => exact absurd h (by simp)
  | succ m ih =>
    intro cs n h
    cases cs with
    | nil => rw [stL_nil]; intro x hx; cases hx
    | cons c t =>
      rw [stL_cons, szL_cons]
      intro x hx
      dsimp only at hx
      rcases List.mem_append.1 hx with hx | hx
      · obtain ⟨k, tg, f, p, xs, l, u⟩ := c
        have q1 : (Co.mk k tg f p xs l u).l = l := rfl
        have q2 : (Co.mk k tg f p xs l u).u = u := rfl
        rw [q1, q2]
        unfold st1 at hx
        rw [q1, q2] at hx
        have hF : ∀ y ∈ (stL l (n + 1)).2 ++ (stL u (n + 1 + szL l)).2, (n : Int) ≤ y ∧ y < n + (1 + szL l + szL u + szL t : Nat) := by
          intro y hy
          rcases List.mem_append.1 hy with hy | hy
          · have := ih l (n + 1) (by simp at h; omega) y hy
            omega
          · have := ih u (n + 1 + szL l) (by simp at h; omega) y hy
            omega
        unfold one at hx
        split at hx
        · exact hF x hx
        · split at hx
          · simp at hx
            omega
          · exact hF x hx
      · have := ih t (n + s1 c) (by simp at h; omega) x hx
        unfold s1 at this
        omega
theorem sts_bd {cs : List Co} (h : chk cs = 0) : (∀ x ∈ sts cs, 0 ≤ x ∧ x ≤ 4096) ∧ (sts cs).length ≤ 4096 ∧ (szL (KCo.tk cs) : Int) ≤ 4096 := by
  have h1 := (KCo.tk_small cs).2
  refine ⟨fun x hx => ?_, ?_, h1⟩
  · have := st_bd _ (KCo.tk cs) 0 (Nat.le_refl _) x hx
    omega
  · have := stL_len _ (KCo.tk cs) 0 (Nat.le_refl _)
    unfold sts
    omega
theorem ix_grow {wr w2 : World} {o : Obj} {tv sv : Value} {L : List Int} (h : IBase.Ix wr tv L) (hg : (wr.alloc o).grownBy w2 sv.ownBlock) (hne : ∀ g, tv.ownBlock = some g → sv.ownBlock ≠ some g) : IBase.Ix w2 tv L := by
  obtain ⟨a, cap, h1, h2, h3, h4, h5⟩ := h
  refine ⟨a, cap, h1, h2, h3, h4, ?_⟩
  rcases h5 with h5 | ⟨g, o', ha, hc⟩
  · exact .inl h5
  · refine .inr ⟨g, o', ha, fun j hj => ?_⟩
    have hlt := cell_lt (hc j hj)
    have hb : w2.heap[g]? = wr.heap[g]? := (hg.block g (by simp; exact Nat.lt_succ_of_lt hlt) (fun e => hne g (by rw [h1, ha]; rfl) e.symm)).trans (Below.heap_alloc _ _ _ hlt)
    exact (World.cell?_of_block (w := wr) hb).trans (hc j hj)
theorem up_snoc (k : Nat) (L : List Int) (j : Nat) (h : j < L.length) : up k (L.take (j + 1)) = up k (L.take j) ++ [L[j] + (k : Int)] := by
  unfold up
  rw [List.take_add_one, List.getElem?_eq_getElem h, List.map_append]
  rfl
theorem up_len (k : Nat) (L : List Int) : (up k L).length = L.length := by simp [up]
theorem fd_at {w : World} {g : Nat} {v0 v1 v2 v3 v4 v5 v6 v7 : Value} {t : TypeId} (h : w.heap[g]? = some (.cells #[v0, v1, v2, v3, v4, v5, v6, v7] t (0, 0))) : Fd8 w g 0 (.agg #[v0, v1, v2, v3, v4, v5, v6, v7]) := by
  obtain ⟨c0, c1, c2, c3, c4, c5, c6, c7⟩ := eight_box h
  exact ⟨v0, v1, v2, v3, v4, v5, v6, v7, rfl, c0, c1, c2, c3, c4, c5, c6, c7⟩
abbrev qF : Array Value := #[.string ⟨#[97]⟩, .string nil, .bool true, .int .i64 1, .int .i64 0, .string nil, ns, .int .i64 0]
abbrev qV (g : Nat) (cv : Value) : Array Value := #[.int .i64 2, .string ⟨#[113]⟩, row1 g, ns, ns, cv, ns]
theorem q_in {w : World} {g m : Nat} {cv : Value} {c : List Co} (h : w.heap[g]? = some (.cells qF 37 (0, 0))) (hc : InL false (fun _ => True) w m cv c) : KBase.In false (fun _ => True) w (m + 1) (.agg (qV g cv)) (qC c) := by
  rw [in_succ]
  refine ⟨_, _, _, _, _, rfl, by simp [qC, Co.k], (show (⟨#[113]⟩ : ByteArray).size ≤ 140737488351232 by decide), Rw.one trivial (fd_at h) ⟨1, _, _, _, _, rfl, (show (⟨#[97]⟩ : ByteArray).size ≤ 140737488351232 by decide), (show nil.size ≤ 140737488351232 by decide), leaf_in w 0 _ 1 0 (by omega) (by omega), (show -9223372036854775808 ≤ (0 : Int) ∧ (0 : Int) ≤ 9223372036854775807 by omega)⟩ (by omega), Rw.nil, ⟨1, none, 0, rfl, by simp [qC, Co.x], by simp, by simp [qC, Co.x], fun _ => rfl, .inl ⟨rfl, rfl⟩⟩, hc, Rw.nil⟩
/-- A row of integers, each one greater. -/
theorem inc_step (L : List Int) (j : Nat) (h : j < L.length) : (up 1 (L.take j) ++ L.drop j).set j (L[j] + 1) = up 1 (L.take (j + 1)) ++ L.drop (j + 1) := by
  rw [up_snoc 1 L j h, List.drop_eq_getElem_cons h, List.append_assoc]
  have hl : (up 1 (L.take j)).length = j := by rw [up_len]; simp; omega
  rw [List.set_append_right _ _ (by omega), hl, Nat.sub_self, List.set_cons_zero]
  rfl
theorem mid_get (L : List Int) (j : Nat) (h : j < L.length) {h' : j < (up 1 (L.take j) ++ L.drop j).length} : (up 1 (L.take j) ++ L.drop j)[j]'h' = L[j] := by
  have hl : (up 1 (L.take j)).length = j := by rw [up_len]; simp; omega
  rw [List.getElem_append_right (by omega)]
  simp [hl]
theorem heap_lt {w : World} {g : Nat} {o : Obj} (h : w.heap[g]? = some o) : g < w.heap.size := by
  rw [Array.getElem?_eq_some_iff] at h
  exact h.1
/-- append of a row of one's own to a row of one's own, nil or not. -/
theorem app_row {P : Program} {w : World} {ops : Array Oper} {rest : List Oper} {o : Oper} {a : Act} {Q : Exit → Act → World → Prop} (hgd : o.guard = none) (s x : Operand) (t : TypeId)
    (ho : o.op = .call { callee := .builtin .append, args := #[s, x], argTypes := #[t, t] })
    (base : Nat) (e : TypeId) (i : TypeInfo) (z : Value) (size bytes : Nat) (ht : P.underlying t = some (.slice e)) (hi : P.info? e = some i) (hz : i.zero = some z)
    (hsize : i.size = size) (hby : i.bytes = bytes) (hzs : z.cells.size = size) (hsz : 0 < size)
    (v : Value) (n : Nat) (xs : List Value) (hs : a.eval s = v) (hown : w.ownsRow base e size v n xs)
    (B2 : Nat) (v2 : Value) (m : Nat) (news : List Value) (hx : a.eval x = v2) (h2 : w.ownsRow B2 e size v2 m news) (hl : news.length = m * size) (h1 : ∀ u ∈ news, u.oneCell' = true)
    (h63 : n + m ≤ maxLen) (hbytes : (n + m) * bytes ≤ 140737488355328) (hbase : base ≤ w.heap.size)
    (h : ∀ v' w', w'.ownsRow base e size v' (n + m) (xs ++ news) → w.grownBy w' v.ownBlock → wpList P ops Q rest (a.put o.dst v') w') :
    wpList P ops Q (o :: rest) a w := by
  rcases h2.2 with ⟨e2, e20⟩ | ⟨g2, cap2, cur2, e2, -⟩
  · subst e2
    subst e20
    obtain rfl : news = [] := List.eq_nil_of_length_eq_zero (by omega)
    refine wpList_append_own_none hgd s x t ho base e i size ht hi v n xs hs hown hx (h v w ?_ ⟨rfl, rfl, rfl, Nat.le_refl _, fun _ _ _ => rfl⟩)
    simpa using hown
  · subst e2
    exact wpList_append_own_at _ hgd s x t ho base e i z size bytes ht hi hz hsize hby hzs hsz v n xs hs hown ⟨g2, 0, none⟩ m cap2 news hx hl (fun j u hu => World.ownsRow.cells (g := g2) h2 rfl j u hu) h1 h63 hbytes hbase (fun v' w' k1 k2 _ _ => h v' w' k1 k2)
set_option maxRecDepth 20000 in
set_option maxHeartbeats 12800000 in
theorem walk {a b : List Co} {m m' : Nat} {va vb : Value} {w : World} (hA : InL false (fun _ => True) w m va a) (hB : InL false (fun _ => True) w m' vb b) (la : a.length ≤ 1048576) (lb : b.length ≤ 1048576) :
    Calls Try.prog 3 #[va, vb] w fun e w' => e = .returned (.bool true) ∧ Below w.heap.size w w' := by
  have HA : Hid (InL false (fun _ => True) w m va a) := hA
  have HBb : Hid (InL false (fun _ => True) w m' vb b) := hB
  obtain ⟨i0, hi, hz0, hz1, hz2⟩ := XLend.info_parts KCq.infoCore
  obtain ⟨j0, hj, hy0, hy1, hy2⟩ := XLend.info_parts KSt.infoI
  have cN := fun x W => num_c x W
  have cW := awake_c w
  obtain ⟨aa, ac, rfl, -⟩ := hA
  obtain ⟨ba, bc, rfl, -⟩ := hB
  go_enter Try.func3, Try.ntmps3
  go_wp2_with fail
  refine cW.mono ?_
  rintro e W0 ⟨rfl, b0⟩
  have HB0 : Hid (Below w.heap.size w W0) := b0
  have cS := KSx.shallow_c (InL.below HA.out b0)
  clear cW b0
  go_wp2_with fail
  refine cS.mono ?_
  rintro e W1 ⟨⟨x1, rfl⟩, b1⟩
  have HB1 : Hid (Below w.heap.size w W1) := nx HB0.out b1
  clear cS b1
  cases x1 with
  | false =>
    go_wp2_with fail
    go_ret
    exact ⟨rfl, HB1.out⟩
  | true =>
    have cS := KSx.shallow_c (InL.below HBb.out HB1.out)
    go_wp2_with fail
    refine cS.mono ?_
    rintro e W2 ⟨⟨x2, rfl⟩, b2⟩
    have HB2 : Hid (Below w.heap.size w W2) := nx HB1.out b2
    clear cS b2
    cases x2 with
    | false =>
      go_wp2_with fail
      go_ret
      exact ⟨rfl, HB2.out⟩
    | true =>
      have cO := KRj.copyO_c (w := W2) (InL.below HA.out HB2.out)
      go_wp2_with fail
      refine cO.mono ?_
      rintro e W3 ⟨u1, us1, rfl, ho1, hl1, hk1, b3⟩
      have HB3 : Hid (Below w.heap.size w W3) := nx HB2.out b3
      have HO1 : Hid (KRn.OwnN W3 W2.heap.size 41 7 u1 us1) := ho1
      have hs3 := b3.size
      have cO2 := KRj.copyO_c (w := W3) (InL.below HBb.out HB3.out)
      clear cO ho1 b3
      go_wp2_with fail
      refine cO2.mono ?_
      rintro e W4 ⟨u2, us2, rfl, ho2, hl2, hk2, b4⟩
      have HB4 : Hid (Below w.heap.size w W4) := nx HB3.out b4
      have HO2 : Hid (KRn.OwnN W4 W3.heap.size 41 7 u2 us2) := ho2
      have Hb4 : Hid (Below W3.heap.size W3 W4) := b4
      have hs4 := b4.size
      have hs2 := HB2.out.size
      have hrow := XLend.own_below HO1.out.1 b4
      have Hl1 : Hid (us1.length = a.length) := hl1
      have Hl2 : Hid (us2.length = b.length) := hl2
      clear cO2 ho2 b4 hl1 hl2
      have hfl : (flat us2).length = us2.length * 7 := KRn.flat_len HO2.out.2
      have hone := KRj.flat_one HO2.out.2
      have hbnd : us1.length ≤ 1048576 ∧ us2.length ≤ 1048576 := by have := Hl1.out; have := Hl2.out; omega
      have hrow2 := HO2.out.1
      obtain ⟨a1', c1', hsh⟩ : ∃ a c, u1 = .slice a us1.length c := by
        rcases HO1.out.1.2 with ⟨h0, h1⟩ | ⟨g, cp, cu, h0, -⟩
        · exact ⟨none, 0, by rw [h1]; exact h0⟩
        · exact ⟨_, _, h0⟩
      obtain ⟨a2', c2', hsh2⟩ : ∃ a c, u2 = .slice a us2.length c := by
        rcases HO2.out.1.2 with ⟨h0, h1⟩ | ⟨g, cp, cu, h0, -⟩
        · exact ⟨none, 0, by rw [h1]; exact h0⟩
        · exact ⟨_, _, h0⟩
      subst hsh
      subst hsh2
      go_wp2_with (first
        | (at_builtin; refine app_row rfl _ _ 22 rfl W2.heap.size 41 i0 (.agg #[.int .i64 0, .string ⟨#[]⟩, .slice none 0 0, .slice none 0 0, .slice none 0 0, .slice none 0 0, .slice none 0 0]) 7 144 Try.underlying22 hi hz0 hz1 hz2 rfl (by decide) _ _ _ rfl hrow W3.heap.size _ us2.length (flat us2) rfl hrow2 hfl hone (by unfold maxLen; omega) (by omega) (by omega) ?_))
      intro cv W5 hown hgrow
      have HIC : Hid (InL false (fun _ => True) W5 (max m m') cv (a ++ b)) := KRj.joined (w := W2) HO1.out Hl1.out hk1.out Hb4.out HO2.out Hl2.out hk2.out hown hgrow (by rw [List.length_append]; omega)
      have HB5 : Hid (Below w.heap.size w W5) := HB4.out.grown hgrow (by omega) (fun k hk => by have := (World.ownsRow.lt hrow k hk).1; omega)
      obtain ⟨ca, cc, hcv, -⟩ := HIC.out
      obtain ⟨cn, hcn⟩ : ∃ cn, (a ++ b).length = cn := ⟨_, rfl⟩
      rw [hcn] at hcv
      subst hcv
      clear hrow hrow2 hk1 hk2 hcn HO1 HO2 hown hgrow hone hfl
      go_wp2_with fail
      have cA := check_c (w := W5) (InL.below HA.out HB5.out)
      obtain ⟨ea, hea⟩ : ∃ ea, chk a = ea := ⟨_, rfl⟩
      have HEA : Hid (chk a = ea) := hea
      rw [hea] at cA
      refine cA.mono ?_
      rintro e W6 ⟨rfl, b6⟩
      have HB6 : Hid (Below w.heap.size w W6) := nx HB5.out b6
      have HIC6 : Hid (InL false (fun _ => True) W6 (max m m') (.slice ca cn cc) (a ++ b)) := InL.below HIC.out b6
      have cB := check_c (w := W6) (InL.below HBb.out HB6.out)
      obtain ⟨eb, heb⟩ : ∃ eb, chk b = eb := ⟨_, rfl⟩
      have HEB : Hid (chk b = eb) := heb
      rw [heb] at cB
      clear cA b6 hea heb
      go_wp2_with fail
      refine cB.mono ?_
      rintro e W7 ⟨rfl, b7⟩
      have HB7 : Hid (Below w.heap.size w W7) := nx HB6.out b7
      have HIC7 : Hid (InL false (fun _ => True) W7 (max m m') (.slice ca cn cc) (a ++ b)) := InL.below HIC6.out b7
      have cC := check_c (w := W7) HIC7.out
      obtain ⟨ec, hec⟩ : ∃ ec, chk (a ++ b) = ec := ⟨_, rfl⟩
      have HEC : Hid (chk (a ++ b) = ec) := hec
      rw [hec] at cC
      clear cB b7 hec
      go_wp2_with fail
      refine cC.mono ?_
      rintro e W8 ⟨rfl, b8⟩
      have HB8 : Hid (Below w.heap.size w W8) := nx HB7.out b8
      have HIC8 : Hid (InL false (fun _ => True) W8 (max m m') (.slice ca cn cc) (a ++ b)) := InL.below HIC7.out b8
      clear cC b8
      by_cases h1 : ea = 0
      · subst h1
        by_cases h2 : eb = 0
        · subst h2
          by_cases h3 : ec = 0
          · subst h3
            have hba := sts_bd HEA.out
            have hbb := sts_bd HEB.out
            have cK := KCo.count_c (w := W8) (InL.below HA.out HB8.out)
            obtain ⟨KA, hKA⟩ : ∃ KA, szL (KCo.tk a) = KA := ⟨_, rfl⟩
            have HKA : Hid (szL (KCo.tk a) = KA) := hKA
            rw [hKA] at cK hba
            go_wp2_with (first | (go_at_call 9; refine (cN _ _).mono ?_; rintro e W99 ⟨rfl, h9⟩; obtain rfl := h9.symm))
            refine cK.mono ?_
            rintro e W9 ⟨rfl, b9⟩
            have HB9 : Hid (Below w.heap.size w W9) := nx HB8.out b9
            have HIC9 : Hid (InL false (fun _ => True) W9 (max m m') (.slice ca cn cc) (a ++ b)) := InL.below HIC8.out b9
            have cT := statics_c (w := W9) (InL.below HA.out HB9.out)
            obtain ⟨SA, hSA⟩ : ∃ SA, sts a = SA := ⟨_, rfl⟩
            have HSA : Hid (sts a = SA) := hSA
            obtain ⟨SB, hSB⟩ : ∃ SB, sts b = SB := ⟨_, rfl⟩
            have HSB : Hid (sts b = SB) := hSB
            rw [hSA] at cT hba
            rw [hSB] at hbb
            clear cK b9 hKA hSA hSB
            go_wp2_with fail
            refine cT.mono ?_
            rintro e W10 ⟨b10, sv0, rfl, ho10⟩
            have hs10 := b10.size
            have Hb10 : Hid (Below W9.heap.size W9 W10) := b10
            have HB10 : Hid (Below w.heap.size w W10) := nx HB9.out b10
            have HO10 : Hid (KSt.Oi W10 W9.heap.size sv0 SA) := ho10
            have cT2 := statics_c (w := W10) (InL.below HBb.out HB10.out)
            rw [HSB.out] at cT2
            obtain ⟨sa0, sc0, hsv0, -, -⟩ := ho10.shape
            subst hsv0
            clear cT b10 ho10
            go_wp2_with fail
            refine cT2.mono ?_
            rintro e W11 ⟨b11, tv, rfl, ho11⟩
            have hs11 := b11.size
            have Hb11 : Hid (Below W9.heap.size W9 W11) := nx Hb10.out b11
            have HO11 : Hid (KSt.Oi W11 W9.heap.size (.slice sa0 SA.length sc0) SA) := HO10.out.below b11
            have HT11 : Hid (IBase.Ix W11 tv SB) := IBase.Oi.ix (show IBase.Oi W11 W10.heap.size tv SB from ho11)
            have HD11 : Hid (∀ g, tv.ownBlock = some g → (Value.slice sa0 SA.length sc0).ownBlock ≠ some g ∧ g < W11.heap.size) := fun g hg => ⟨fun e => by have := (HO10.out.lt e).2; have := (ho11.lt hg).1; omega, (ho11.lt hg).2⟩
            obtain ⟨ta, tc, htv, htc1, htc2⟩ := ho11.shape
            subst htv
            clear cT2 b11 ho11
            go_wp2_with fail
            go_loopw [10, 12] (fun sv i wr => ∃ (j : Nat), i = .int .i64 j ∧ j ≤ SB.length ∧ KSt.Oi wr W9.heap.size sv (SA ++ up KA (SB.take j)) ∧ Below W9.heap.size W9 wr ∧ IBase.Ix wr (.slice ta SB.length tc) SB ∧ (∀ g, (Value.slice ta SB.length tc).ownBlock = some g → sv.ownBlock ≠ some g ∧ g < wr.heap.size)) (fun _ i _ => SB.length - (intOf i).toNat)
            case atStart => exact ⟨0, rfl, by omega, by rw [List.take_zero]; simpa [up] using HO11.out, Hb11.out, HT11.out, HD11.out⟩
            case round =>
              obtain ⟨j, rfl, hjl, ho, hbr, hix, hdis⟩ := hrel
              have HO : Hid (KSt.Oi wr W9.heap.size u10 (SA ++ up KA (SB.take j))) := ho
              have HBR : Hid (Below W9.heap.size W9 wr) := hbr
              have HIX : Hid (IBase.Ix wr (.slice ta SB.length tc) SB) := hix
              have HDI : Hid (∀ g, (Value.slice ta SB.length tc).ownBlock = some g → u10.ownBlock ≠ some g ∧ g < wr.heap.size) := hdis
              have hsr := hbr.size
              obtain ⟨sa, sc, hsv, hsc1, hsc2⟩ := ho.shape
              have hln : (SA ++ up KA (SB.take j)).length = SA.length + j := by rw [List.length_append, up_len]; simp; omega
              rw [hln] at hsv hsc1
              clear hdis hbr
              by_cases hlt : j < SB.length
              · have d0 : decide ((j : Int) < (SB.length : Int)) = true := by simp; omega
                have i0' : (0 : Int) ≤ (j : Int) := by omega
                have i1' : (j : Int) < (SB.length : Int) := by omega
                obtain ⟨ta', tc', htt, -, -, -, hL⟩ := hix
                rcases hL with hL | ⟨g, o, hta, hcl⟩
                · rw [hL] at hlt; simp at hlt
                cases htt
                subst hta
                have hc := hcl j hlt
                have hxb := hbb.1 SB[j] (List.getElem_mem hlt)
                obtain ⟨x, hx⟩ : ∃ x, SB[j] = x := ⟨_, rfl⟩
                have Hx : Hid (SB[j] = x) := hx
                rw [hx] at hc hxb
                have hwx : IntKind.i64.wrap (x + (KA : Int)) = x + (KA : Int) := by rw [IntKind.wrap_i64]; omega
                have hrow := World.ownsRow.alloc ho (.cells #[.int .i64 (x + (KA : Int))] 3)
                rw [hln] at hrow
                have Hsv : Hid (u10 = .slice sa (SA.length + j) sc) := hsv
                subst hsv
                clear hcl hx ho
                go_wp2_with (first
                  | (at_builtin; refine wpList_append_own_at _ rfl _ _ 30 rfl W9.heap.size 3 j0 (.int .i64 0) 1 8 Try.underlying30 hj hy0 hy1 hy2 rfl (by decide) _ _ _ rfl hrow ⟨wr.heap.size, 0, none⟩ 1 1 [.int .i64 (x + (KA : Int))] rfl rfl (cell_one_new _ _ _) (by simp [Value.oneCell']) (by unfold maxLen; omega) (by omega) (by simp; omega) ?_))
                intro v' w2 hown hgrow _ hat
                have HO2 : Hid (KSt.Oi w2 W9.heap.size v' (SA ++ up KA (SB.take (j + 1)))) := by
                  show World.ownsRow _ _ _ _ _ _ _
                  have e1 : SA ++ up KA (SB.take (j + 1)) = (SA ++ up KA (SB.take j)) ++ [x + (KA : Int)] := by rw [up_snoc KA SB j hlt, Hx.out, List.append_assoc]
                  rw [e1, List.length_append, hln, List.map_append, List.map_append, List.append_assoc]
                  exact hown
                have HB2' : Hid (Below W9.heap.size W9 w2) := (HBR.out.alloc hsr (.cells #[.int .i64 (x + (KA : Int))] 3)).grown hgrow (by simp; omega) (fun k hk => (World.ownsRow.lt hrow k hk).1)
                have HI2 : Hid (IBase.Ix w2 (.slice (some ⟨g, o, none⟩) SB.length tc) SB) := ix_grow HIX.out hgrow (fun g hg => (HDI.out g hg).1)
                have hsz2 := hgrow.size
                have HD2 : Hid (∀ g', (Value.slice (some ⟨g, o, none⟩) SB.length tc).ownBlock = some g' → v'.ownBlock ≠ some g' ∧ g' < w2.heap.size) := fun g' hg' => by
                  have h0 := HDI.out g' hg'
                  simp only [World.size_alloc] at hsz2
                  refine ⟨fun e => ?_, by omega⟩
                  rcases hat with h | h
                  · exact h0.1 (h ▸ e)
                  · rw [h] at e
                    have := Option.some.inj e
                    omega
                clear hown hgrow hat hrow hsz2
                go_wp2_with fail
                go_roundw
                case rel => exact ⟨j + 1, by go_num, by omega, HO2.out, HB2'.out, HI2.out, HD2.out⟩
                case measure => simp only [intOf]; omega
              · obtain rfl : j = SB.length := by omega
                have d0 : decide ((SB.length : Int) < (SB.length : Int)) = false := by simp
                subst hsv
                have HBw : Hid (Below w.heap.size w wr) := HB9.out.trans (HBR.out.mono HB9.out.size)
                have hjoin : SA ++ up KA (SB.take SB.length) = SA ++ up KA SB := by rw [List.take_length]
                have HS : Hid (KSt.Oi wr W9.heap.size (.slice sa (SA.length + SB.length) sc) (SA ++ up KA SB)) := by rw [← hjoin]; exact HO.out
                have HICr : Hid (InL false (fun _ => True) wr (max m m') (.slice ca cn cc) (a ++ b)) := InL.below HIC9.out HBR.out
                clear hjoin HO HIX HDI hln
                have cK2 := KCo.count_c HICr.out
                obtain ⟨KB, hKB⟩ : ∃ KB, szL (KCo.tk b) = KB := ⟨_, rfl⟩
                have HKC : Hid (szL (KCo.tk (a ++ b)) = KA + KB) := by show _ = _; rw [KJq.sz_join HEA.out HEB.out HEC.out, HKA.out, hKB]
                have HSC : Hid (sts (a ++ b) = SA ++ up KA SB) := by show _ = _; rw [KJq.sts_join HEA.out HEB.out HEC.out, HSA.out, HSB.out, ← HKA.out, KJq.tk_eq HEA.out]
                have ecast : ((KA + KB : Nat) : Int) = (KA : Int) + (KB : Int) := by omega
                rw [HKC.out, ecast] at cK2
                rw [hKB] at hbb
                obtain ⟨sn, hsn⟩ : ∃ sn, SA.length + SB.length = sn := ⟨_, rfl⟩
                have HSn : Hid ((SA ++ up KA SB).length = sn) := by show _ = _; rw [List.length_append, up_len]; exact hsn
                obtain ⟨SS, hSS⟩ : ∃ SS, SA ++ up KA SB = SS := ⟨_, rfl⟩
                have HSb : Hid (∀ x ∈ SS, 0 ≤ x ∧ x ≤ 8192) := by
                  intro x hx
                  rw [← hSS] at hx
                  rcases List.mem_append.1 hx with hx | hx
                  · have := hba.1 x hx
                    omega
                  · obtain ⟨y, hy, rfl⟩ := List.mem_map.1 hx
                    have := hbb.1 y hy
                    omega
                rw [hSS] at HSC HS HSn
                rw [hsn] at HS
                have hsn8 : sn ≤ 8192 := by omega
                have HSl : Hid (SS.length = sn) := by show _ = _; exact HSn.out
                clear hSS HSn
                go_wp2_with fail
                refine cK2.mono ?_
                rintro e V1 ⟨rfl, d1⟩
                have HV1 : Hid (Below w.heap.size w V1) := nx HBw.out d1
                have HX1 : Hid (Below W9.heap.size W9 V1) := nx HBR.out d1
                have HS1 : Hid (KSt.Oi V1 W9.heap.size (.slice sa sn sc) SS) := HS.out.below d1
                have HI1 : Hid (InL false (fun _ => True) V1 (max m m') (.slice ca cn cc) (a ++ b)) := InL.below HICr.out d1
                have cK3 := KCo.count_c (w := V1) (InL.below HBb.out HV1.out)
                rw [hKB] at cK3
                have hwk : IntKind.i64.wrap ((KA : Int) + (KB : Int)) = (KA : Int) + (KB : Int) := by rw [IntKind.wrap_i64]; omega
                clear cK2 d1
                go_wp2_with fail
                refine cK3.mono ?_
                rintro e V2 ⟨rfl, d2⟩
                have HV2 : Hid (Below w.heap.size w V2) := nx HV1.out d2
                have HX2 : Hid (Below W9.heap.size W9 V2) := nx HX1.out d2
                have HS2 : Hid (KSt.Oi V2 W9.heap.size (.slice sa sn sc) SS) := HS1.out.below d2
                have HI2 : Hid (InL false (fun _ => True) V2 (max m m') (.slice ca cn cc) (a ++ b)) := InL.below HI1.out d2
                have cT3 := statics_c (w := V2) HI2.out
                rw [HSC.out] at cT3
                clear cK3 d2
                go_wp2_with fail
                refine cT3.mono ?_
                rintro e V3 ⟨d3, zv, rfl, ho3⟩
                have HV3 : Hid (Below w.heap.size w V3) := nx HV2.out d3
                have HX3 : Hid (Below W9.heap.size W9 V3) := nx HX2.out d3
                have HS3 : Hid (KSt.Oi V3 W9.heap.size (.slice sa sn sc) SS) := HS2.out.below d3
                have HI3 : Hid (InL false (fun _ => True) V3 (max m m') (.slice ca cn cc) (a ++ b)) := InL.below HI2.out d3
                have cE := IInts.sameI_c (IBase.Oi.ix (show IBase.Oi V3 V2.heap.size zv SS from ho3)) (IBase.Oi.ix (show IBase.Oi V3 W9.heap.size (.slice sa sn sc) SS from HS3.out))
                rw [decide_eq_true rfl] at cE
                obtain ⟨za, zc, hzv, -, -⟩ := ho3.shape
                rw [HSl.out] at hzv
                subst hzv
                clear cT3 d3 ho3
                go_wp2_with fail
                refine cE.mono ?_
                rintro e V4 ⟨rfl, d4⟩
                have HV4 : Hid (Below w.heap.size w V4) := nx HV3.out d4
                have HX4 : Hid (Below W9.heap.size W9 V4) := nx HX3.out d4
                have HS4 : Hid (KSt.Oi V4 W9.heap.size (.slice sa sn sc) SS) := HS3.out.below d4
                have HI4 : Hid (InL false (fun _ => True) V4 (max m m') (.slice ca cn cc) (a ++ b)) := InL.below HI3.out d4
                have cL := KCo.loops_c (w := V4) HI4.out
                rw [KJq.lo_join HEA.out HEB.out HEC.out] at cL
                obtain ⟨LA, hLA⟩ : ∃ LA, KVl.vf 0 (KCo.tk a) 0 = LA := ⟨_, rfl⟩
                obtain ⟨LB, hLB⟩ : ∃ LB, KVl.vf 0 (KCo.tk b) 0 = LB := ⟨_, rfl⟩
                obtain ⟨LM, hLM⟩ : ∃ LM, max LA LB = LM := ⟨_, rfl⟩
                rw [hLA, hLB, hLM] at cL
                clear cE d4
                go_wp2_with fail
                refine cL.mono ?_
                rintro e V5 ⟨rfl, d5⟩
                have HV5 : Hid (Below w.heap.size w V5) := nx HV4.out d5
                have HX5 : Hid (Below W9.heap.size W9 V5) := nx HX4.out d5
                have HS5 : Hid (KSt.Oi V5 W9.heap.size (.slice sa sn sc) SS) := HS4.out.below d5
                have HI5 : Hid (InL false (fun _ => True) V5 (max m m') (.slice ca cn cc) (a ++ b)) := InL.below HI4.out d5
                have cL2 := KCo.loops_c (w := V5) (InL.below HA.out HV5.out)
                rw [hLA] at cL2
                clear cL d5
                go_wp2_with fail
                refine cL2.mono ?_
                rintro e V6 ⟨rfl, d6⟩
                have HV6 : Hid (Below w.heap.size w V6) := nx HV5.out d6
                have HX6 : Hid (Below W9.heap.size W9 V6) := nx HX5.out d6
                have HS6 : Hid (KSt.Oi V6 W9.heap.size (.slice sa sn sc) SS) := HS5.out.below d6
                have HI6 : Hid (InL false (fun _ => True) V6 (max m m') (.slice ca cn cc) (a ++ b)) := InL.below HI5.out d6
                have cL3 := KCo.loops_c (w := V6) (InL.below HBb.out HV6.out)
                rw [hLB] at cL3
                clear cL2 d6
                go_wp2_with fail
                refine cL3.mono ?_
                rintro e V7 ⟨rfl, d7⟩
                have HV7 : Hid (Below w.heap.size w V7) := nx HV6.out d7
                have HX7 : Hid (Below W9.heap.size W9 V7) := nx HX6.out d7
                have HS7 : Hid (KSt.Oi V7 W9.heap.size (.slice sa sn sc) SS) := HS6.out.below d7
                have HI7 : Hid (InL false (fun _ => True) V7 (max m m') (.slice ca cn cc) (a ++ b)) := InL.below HI6.out d7
                have hmx : (if LA < LB then LB else LA) = LM := by rw [← hLM]; split <;> omega
                obtain ⟨U0, hU0⟩ : ∃ U0, (V7.alloc (.cells qF 37)).alloc (.cells (qV V7.heap.size (.slice ca cn cc)) 41) = U0 := ⟨_, rfl⟩
                have g0 : Below V7.heap.size V7 U0 := by rw [← hU0]; exact ((Below.refl _ V7).alloc (Nat.le_refl _) _).alloc (by simp) _
                have hz0' : U0.heap.size = V7.heap.size + 2 := by rw [← hU0]; simp
                have HF0 : Hid (U0.heap[V7.heap.size]? = some (.cells qF 37 (0, 0))) := by rw [← hU0, Below.heap_alloc _ _ _ (by simp)]; exact heap_alloc_new V7 _
                have HQ0 : Hid (U0.heap[V7.heap.size + 1]? = some (.cells (qV V7.heap.size (.slice ca cn cc)) 41 (0, 0))) := by rw [← hU0]; exact heap_alloc_at _ _ _ (by simp)
                have HS8 : Hid (KSt.Oi U0 W9.heap.size (.slice sa sn sc) SS) := HS7.out.below g0
                have HI8 : Hid (InL false (fun _ => True) U0 (max m m') (.slice ca cn cc) (a ++ b)) := InL.below HI7.out g0
                have HV8 : Hid (Below w.heap.size w U0) := nx HV7.out g0
                have HX8 : Hid (Below W9.heap.size W9 U0) := nx HX7.out g0
                have HsV : Hid (∀ g, (Value.slice sa sn sc).ownBlock = some g → g < V7.heap.size) := fun g hg => (HS7.out.lt hg).2
                obtain ⟨U1, hU1⟩ : ∃ U1, U0.alloc (.cells (qV V7.heap.size (.slice ca cn cc)) 41) = U1 := ⟨_, rfl⟩
                have g1 : Below U0.heap.size U0 U1 := by rw [← hU1]; exact (Below.refl _ U0).alloc (Nat.le_refl _) _
                have p1 : U1.heap[U0.heap.size]? = some (.cells (qV V7.heap.size (.slice ca cn cc)) 41 (0, 0)) := by rw [← hU1]; exact heap_alloc_new U0 _
                have cQ := check_c (w := U1) (Rw.one trivial (co_at p1) (q_in ((g1.block _ (by omega)).trans HF0.out) (InL.below HI8.out g1)) (by omega))
                rw [hz0'] at cQ
                have Hg1 : Hid (Below U0.heap.size U0 U1) := g1
                have HV9 : Hid (Below w.heap.size w U1) := nx HV8.out g1
                have HU0 : Hid ((V7.alloc (.cells qF 37)).alloc (.cells (qV V7.heap.size (.slice ca cn cc)) 41) = U0) := hU0
                have HU1 : Hid (U0.alloc (.cells (qV V7.heap.size (.slice ca cn cc)) 41) = U1) := hU1
                clear cL3 d7 hLM hLA hLB g0 g1 p1 hU0 hU1
                go_wp2_with fail
                rw [HU0.out, HU1.out]
                refine cQ.mono ?_
                rintro e U2 ⟨rfl, g2⟩
                have HV10 : Hid (Below w.heap.size w U2) := nx HV9.out g2
                have Hg2 : Hid (Below U0.heap.size U0 U2) := nx Hg1.out g2
                obtain ⟨eq, heq⟩ : ∃ eq, chk [qC (a ++ b)] = eq := ⟨_, rfl⟩
                have HEQ : Hid (chk [qC (a ++ b)] = eq) := heq
                have hch := KJq.chk_q HEC.out
                rw [heq] at hch
                rw [heq]
                clear cQ g2 heq
                rcases hch with h | h | h
                · subst h
                  have HXA : Hid (Below W9.heap.size W9 U2) := nx HX8.out Hg2.out
                  have HSA : Hid (KSt.Oi U2 W9.heap.size (.slice sa sn sc) SS) := HS8.out.below Hg2.out
                  have HFA : Hid (U2.heap[V7.heap.size]? = some (.cells qF 37 (0, 0))) := (Hg2.out.block _ (by omega)).trans HF0.out
                  have HQA : Hid (U2.heap[V7.heap.size + 1]? = some (.cells (qV V7.heap.size (.slice ca cn cc)) 41 (0, 0))) := (Hg2.out.block _ (by omega)).trans HQ0.out
                  have hsA := Hg2.out.size
                  have HCq : Hid (szL (KCo.tk [qC (a ++ b)]) = 1 + (KA + KB)) := by show _ = _; rw [KJq.sz_q HEC.out HEQ.out, HKC.out]
                  have HTq : Hid (sts [qC (a ++ b)] = up 1 SS) := by show _ = _; rw [KJq.sts_q HEC.out HEQ.out, HSC.out]
                  have Hh9 : Hid (W9.heap.size ≤ V7.heap.size) := HX7.out.size
                  clear HBw HS HICr HBR HS1 HS2 HS3 HS4 HS5 HS6 HS7 HS8 HI1 HI2 HI3 HI4 HI5 HI6 HI7 HI8 HV1 HV2 HV3 HV4 HV5 HV6 HV7 HV8 HV9 HX1 HX2 HX3 HX4 HX5 HX6 HX7 HX8 HF0 HQ0 HU0 HU1 Hg1 Hg2
                  go_wp2_with (first | (go_at_call 9; refine (cN _ _).mono ?_; rintro e W99 ⟨rfl, h9⟩; obtain rfl := h9.symm))
                  go_loopw [15] (fun i wr => ∃ (j : Nat), i = .int .i64 j ∧ j ≤ sn ∧ IBase.Oi wr W9.heap.size (.slice sa sn sc) (up 1 (SS.take j) ++ SS.drop j) ∧ Below W9.heap.size W9 wr ∧ wr.heap[V7.heap.size]? = some (.cells qF 37 (0, 0)) ∧ wr.heap[V7.heap.size + 1]? = some (.cells (qV V7.heap.size (.slice ca cn cc)) 41 (0, 0))) (fun i _ => sn - (intOf i).toNat)
                  case atStart => exact ⟨0, rfl, by omega, by rw [List.take_zero, List.drop_zero]; exact HSA.out, HXA.out, HFA.out, HQA.out⟩
                  case round =>
                    obtain ⟨j, rfl, hjl, ho, hbr, hF, hQ⟩ := hrel
                    have HO : Hid (IBase.Oi wr W9.heap.size (.slice sa sn sc) (up 1 (SS.take j) ++ SS.drop j)) := ho
                    have HBR : Hid (Below W9.heap.size W9 wr) := hbr
                    have HF : Hid (wr.heap[V7.heap.size]? = some (.cells qF 37 (0, 0))) := hF
                    have HQ : Hid (wr.heap[V7.heap.size + 1]? = some (.cells (qV V7.heap.size (.slice ca cn cc)) 41 (0, 0))) := hQ
                    have hlen : (up 1 (SS.take j) ++ SS.drop j).length = sn := by have := HSl.out; rw [List.length_append, up_len]; simp; omega
                    clear hbr hF hQ HSA HXA HFA HQA
                    by_cases hlt : j < sn
                    · have d0 : decide ((j : Int) < (sn : Int)) = true := by simp; omega
                      obtain ⟨g, cap, hv, hc1, hc2⟩ := IBase.Oi.pos ho (by omega)
                      rw [hlen] at hv hc1
                      injection hv with e1 e2 e3
                      subst e1
                      subst e3
                      have hjS : j < SS.length := by have := HSl.out; omega
                      have hat := IBase.Oi.at ho (k := j) (by omega)
                      rw [mid_get SS j hjS, Nat.zero_add] at hat
                      obtain ⟨x, hx⟩ : ∃ x, SS[j] = x := ⟨_, rfl⟩
                      have Hx : Hid (SS[j] = x) := hx
                      have hxb := HSb.out SS[j] (List.getElem_mem hjS)
                      rw [hx] at hat hxb
                      have hwx : IntKind.i64.wrap (x + 1) = x + 1 := by rw [IntKind.wrap_i64]; omega
                      obtain ⟨hce, hfz⟩ := hat
                      have hgv := HsV.out g rfl
                      have HGe : Hid (W9.heap.size ≤ g) := (IBase.Oi.lt ho).1
                      clear ho hx hlen
                      go_wp2_with fail
                      go_roundw
                      case rel =>
                        have hset := IBase.Oi.set HO.out j (x + 1)
                        rw [← Hx.out, inc_step SS j hjS, Hx.out] at hset
                        exact ⟨j + 1, by go_num, by omega, hset.1, HBR.out.grown hset.2 HBR.out.size (fun k hk => by cases hk; exact HGe.out), (hset.2.block _ (heap_lt HF.out) (by simp; omega)).trans HF.out, (hset.2.block _ (heap_lt HQ.out) (by simp; omega)).trans HQ.out⟩
                      case measure => simp only [intOf]; omega
                    · obtain rfl : j = sn := by omega
                      have d0 : decide ((j : Int) < (j : Int)) = false := by simp
                      have hfull : up 1 (SS.take j) ++ SS.drop j = up 1 SS := by have := HSl.out; rw [List.take_of_length_le (by omega), List.drop_of_length_le (by omega), List.append_nil]
                      have HOF : Hid (IBase.Oi wr W9.heap.size (.slice sa j sc) (up 1 SS)) := by show IBase.Oi _ _ _ _; rw [← hfull]; exact HO.out
                      obtain ⟨z0, z1, z2, z3, z4, z5, z6⟩ := seven_box HQ.out
                      obtain ⟨T1, hT1⟩ : ∃ T1, wr.alloc (.cells (qV V7.heap.size (.slice ca cn cc)) 41) = T1 := ⟨_, rfl⟩
                      have t1 : Below wr.heap.size wr T1 := by rw [← hT1]; exact (Below.refl _ wr).alloc (Nat.le_refl _) _
                      have q1 : T1.heap[wr.heap.size]? = some (.cells (qV V7.heap.size (.slice ca cn cc)) 41 (0, 0)) := by rw [← hT1]; exact heap_alloc_new wr _
                      have HY1 : Hid (Below W9.heap.size W9 T1) := nx HBR.out t1
                      have HF1 : Hid (T1.heap[V7.heap.size]? = some (.cells qF 37 (0, 0))) := (t1.block _ (heap_lt HF.out)).trans HF.out
                      have HQ1 : Hid (T1.heap[V7.heap.size + 1]? = some (.cells (qV V7.heap.size (.slice ca cn cc)) 41 (0, 0))) := (t1.block _ (heap_lt HQ.out)).trans HQ.out
                      have HOF1 : Hid (IBase.Oi T1 W9.heap.size (.slice sa j sc) (up 1 SS)) := HOF.out.below t1
                      have c1 := KCo.count_c (w := T1) (Rw.one trivial (co_at q1) (q_in HF1.out (InL.below HIC9.out HY1.out)) (by omega))
                      have ec1 : ((1 + (KA + KB) : Nat) : Int) = 1 + ((KA : Int) + (KB : Int)) := by omega
                      rw [HCq.out, ec1] at c1
                      have HT1 : Hid (wr.alloc (.cells (qV V7.heap.size (.slice ca cn cc)) 41) = T1) := hT1
                      clear ho hfull hlen t1 q1 hT1
                      go_wp2_with fail
                      rw [HT1.out]
                      refine c1.mono ?_
                      rintro e T2 ⟨rfl, t2⟩
                      have HY2 : Hid (Below W9.heap.size W9 T2) := nx HY1.out t2
                      have HF2 : Hid (T2.heap[V7.heap.size]? = some (.cells qF 37 (0, 0))) := (t2.block _ (heap_lt HF1.out)).trans HF1.out
                      have HQ2 : Hid (T2.heap[V7.heap.size + 1]? = some (.cells (qV V7.heap.size (.slice ca cn cc)) 41 (0, 0))) := (t2.block _ (heap_lt HQ1.out)).trans HQ1.out
                      have HOF2 : Hid (IBase.Oi T2 W9.heap.size (.slice sa j sc) (up 1 SS)) := HOF1.out.below t2
                      have c2 := KCo.count_c (w := T2) (InL.below HIC9.out HY2.out)
                      rw [HKC.out, ecast] at c2
                      clear c1 t2 z0 z1 z2 z3 z4 z5 z6
                      go_wp2_with fail
                      refine c2.mono ?_
                      rintro e T3 ⟨rfl, t3⟩
                      have HY3 : Hid (Below W9.heap.size W9 T3) := nx HY2.out t3
                      have HF3 : Hid (T3.heap[V7.heap.size]? = some (.cells qF 37 (0, 0))) := (t3.block _ (heap_lt HF2.out)).trans HF2.out
                      have HQ3 : Hid (T3.heap[V7.heap.size + 1]? = some (.cells (qV V7.heap.size (.slice ca cn cc)) 41 (0, 0))) := (t3.block _ (heap_lt HQ2.out)).trans HQ2.out
                      have HOF3 : Hid (IBase.Oi T3 W9.heap.size (.slice sa j sc) (up 1 SS)) := HOF2.out.below t3
                      obtain ⟨z0, z1, z2, z3, z4, z5, z6⟩ := seven_box HQ3.out
                      obtain ⟨T4, hT4⟩ : ∃ T4, T3.alloc (.cells (qV V7.heap.size (.slice ca cn cc)) 41) = T4 := ⟨_, rfl⟩
                      have t4 : Below T3.heap.size T3 T4 := by rw [← hT4]; exact (Below.refl _ T3).alloc (Nat.le_refl _) _
                      have q4 : T4.heap[T3.heap.size]? = some (.cells (qV V7.heap.size (.slice ca cn cc)) 41 (0, 0)) := by rw [← hT4]; exact heap_alloc_new T3 _
                      have HY4 : Hid (Below W9.heap.size W9 T4) := nx HY3.out t4
                      have HF4 : Hid (T4.heap[V7.heap.size]? = some (.cells qF 37 (0, 0))) := (t4.block _ (heap_lt HF3.out)).trans HF3.out
                      have HOF4 : Hid (IBase.Oi T4 W9.heap.size (.slice sa j sc) (up 1 SS)) := HOF3.out.below t4
                      have c4 := statics_c (w := T4) (Rw.one trivial (co_at q4) (q_in HF4.out (InL.below HIC9.out HY4.out)) (by omega))
                      rw [HTq.out] at c4
                      have HT4 : Hid (T3.alloc (.cells (qV V7.heap.size (.slice ca cn cc)) 41) = T4) := hT4
                      have hwq : IntKind.i64.wrap (1 + ((KA : Int) + (KB : Int))) = 1 + ((KA : Int) + (KB : Int)) := by rw [IntKind.wrap_i64]; omega
                      clear c2 t3 t4 q4 hT4
                      go_wp2_with fail
                      rw [HT4.out]
                      refine c4.mono ?_
                      rintro e T5 ⟨t5, yv, rfl, ho5⟩
                      have HY5 : Hid (Below W9.heap.size W9 T5) := nx HY4.out t5
                      have cE2 := IInts.sameI_c (IBase.Oi.ix (show IBase.Oi T5 T4.heap.size yv (up 1 SS) from ho5)) (IBase.Oi.ix (HOF4.out.below t5))
                      rw [decide_eq_true rfl] at cE2
                      obtain ⟨ya, yc, hyv, -, -⟩ := ho5.shape
                      obtain ⟨yn, hyn⟩ : ∃ yn, (up 1 SS).length = yn := ⟨_, rfl⟩
                      rw [hyn] at hyv
                      subst hyv
                      clear c4 t5 ho5 z0 z1 z2 z3 z4 z5 z6 hyn
                      go_wp2_with fail
                      refine cE2.mono ?_
                      rintro e T6 ⟨rfl, t6⟩
                      have HB9' : Hid (Below w.heap.size w T6) := HB9.out.trans ((nx HY5.out t6).mono HB9.out.size)
                      clear cE2 t6
                      go_wp2_with fail
                      go_ret
                      exact ⟨rfl, HB9'.out⟩
                · subst h
                  go_wp2_with (first | (go_at_call 9; refine (cN _ _).mono ?_; rintro e W99 ⟨rfl, h9⟩; obtain rfl := h9.symm))
                  go_ret
                  exact ⟨rfl, HV10.out⟩
                · subst h
                  go_wp2_with (first | (go_at_call 9; refine (cN _ _).mono ?_; rintro e W99 ⟨rfl, h9⟩; obtain rfl := h9.symm))
                  go_ret
                  exact ⟨rfl, HV10.out⟩
          · have hj1 : ec = 1504 := by
              rcases KJp.chk_join HEA.out HEB.out with h | h
              · exact absurd (HEC.out.symm.trans h) h3
              · exact HEC.out.symm.trans h
            subst hj1
            clear h3
            go_wp2_with (first | (go_at_call 9; refine (cN _ _).mono ?_; rintro e W99 ⟨rfl, h9⟩; obtain rfl := h9.symm))
            go_ret
            exact ⟨rfl, HB8.out⟩
        · have ne : (eb != 0) = true := by simpa using h2
          go_wp2_with (first | (go_at_call 9; refine (cN _ _).mono ?_; rintro e W99 ⟨rfl, h9⟩; obtain rfl := h9.symm))
          go_ret
          exact ⟨rfl, HB8.out⟩
      · have ne : (ea != 0) = true := by simpa using h1
        go_wp2_with (first | (go_at_call 9; refine (cN _ _).mono ?_; rintro e W99 ⟨rfl, h9⟩; obtain rfl := h9.symm))
        go_ret
        exact ⟨rfl, HB8.out⟩
end Go.Proofs.Ytenhljiibfdckaa.WJn

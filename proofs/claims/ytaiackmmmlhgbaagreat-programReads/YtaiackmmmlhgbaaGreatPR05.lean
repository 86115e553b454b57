import Derived.BigQuiet
import Derived.Deep.QuietTactic
import Derived.Laws.AppendOwnNone
import Derived.Maps.AppendAt
import Derived.Test.YtaiackmmmlhgbaaGreatPR00
import Derived.Test.YtaiackmmmlhgbaaGreatPR04
open Go.Proofs.Tryz
set_option linter.unusedVariables false
set_option maxRecDepth 20000
set_option maxHeartbeats 3200000
namespace Go.Proofs.YtaiackmmmlhgbaaGreat.TAttrs
open Go.RowKit TBase TPure
theorem drewN_below {n : Nat} {w w' : World} (h : Below n w w') (k : Nat) : Below n w (w'.drewN k) := h.trans ⟨rfl, rfl, rfl, by simp, fun _ _ => by simp⟩
theorem aok_no1 {n : List (ByteArray × ByteArray)} {i : Nat} {h : i < n.length} (h1 : UBase.word n[i].1 45 = false) : aok n i h = false := by simp [aok, h1]
theorem aok_no2 {n : List (ByteArray × ByteArray)} {i : Nat} {h : i < n.length} (h1 : tg n[i].2 = false) : aok n i h = false := by simp [aok, h1]
theorem aok_no3 {n : List (ByteArray × ByteArray)} {i : Nat} {h : i + 1 < n.length} (h1 : lt (n[i]'(by omega)).1 n[i + 1].1 = false) : aok n (i + 1) h = false := by simp [aok, h1]
theorem aok_yes0 {n : List (ByteArray × ByteArray)} {h : 0 < n.length} (h1 : UBase.word n[0].1 45 = true) (h2 : tg n[0].2 = true) : aok n 0 h = true := by simp [aok, h1, h2]
theorem aok_yes {n : List (ByteArray × ByteArray)} {i : Nat} {h : i + 1 < n.length} (h1 : UBase.word n[i + 1].1 45 = true) (h2 : tg n[i + 1].2 = true) (h3 : lt (n[i]'(by omega)).1 n[i + 1].1 = true) : aok n (i + 1) h = true := by simp [aok, h1, h2, h3]
theorem attrs_c (v : Value) (n : List (ByteArray × ByteArray)) (w : World) (h : Ax false All w v n) :
    Calls prog 227 #[v] w fun e w' => e = .returned (.bool (attrsOK n)) /\ Below w.heap.size w w' := by
  obtain ⟨a, cap, rfl, hlc, hm, hlen, hsz, hnil, hN⟩ := h
  go_enter func227, ntmps227
  go_wp2_with fail
  go_loopw [7] (fun i wr => ∃ q : Nat, q <= n.length /\ i = .int .i64 q /\ (∀ j (h : j < n.length), j < q -> aok n j h = true) /\ Below w.heap.size w wr) (fun i _ => n.length - (intOf i).toNat)
  case atStart => exact ⟨0, by omega, rfl, fun j _ h => by omega, Below.refl _ _⟩
  case round =>
    obtain ⟨q, hq, rfl, hall, hb⟩ := hrel
    by_cases hlt : q < n.length
    · have hn := hsz n[q] (List.getElem_mem hlt)
      obtain ⟨g, o, rfl, -, hc, hd⟩ := attr_at hN hlt
      have hc := below_cell hc hb
      have hd := below_cell hd hb
      have HA : Hid (∀ j (h : j < n.length), j < q -> aok n j h = true) := hall
      clear hall
      obtain ⟨x, hx⟩ : ∃ x, n[q].1 = x := ⟨_, rfl⟩
      obtain ⟨y, hy⟩ : ∃ y, n[q].2 = y := ⟨_, rfl⟩
      rw [hx] at hc hn
      rw [hy] at hd hn
      have Hx : Hid (n[q].1 = x) := hx
      have Hy : Hid (n[q].2 = y) := hy
      clear hx hy
      have b0 : Below wr.heap.size wr (wr.alloc (.cells #[.string x, .string y] 124)) := (Below.refl _ _).alloc (Nat.le_refl _) _
      have k0 := (two_box (heap_alloc_new wr (.cells #[.string x, .string y] 124))).1
      have c67 := UWord.tag_c x (by omega) (wr.alloc (.cells #[.string x, .string y] 124))
      have c66 := short_c y (by omega) (wr.alloc (.cells #[.string x, .string y] 124))
      cases e1 : UBase.word x 45 with
      | false =>
        rw [e1] at c67
        go_wp2_with (first | (go_at_call 215; refine c67.mono ?_; rintro e w' ⟨rfl, rfl⟩))
        go_ret
        exact ⟨by rw [attrsOK_false hlt (aok_no1 (by rw [Hx.out]; exact e1))]; rfl, nx hb b0⟩
      | true =>
        rw [e1] at c67
        cases e2 : tg y with
        | false =>
          rw [e2] at c66
          go_wp2_with (first | (go_at_call 215; refine c67.mono ?_; rintro e w' ⟨rfl, rfl⟩) | (go_at_call 85; refine c66.mono ?_; rintro e w1 ⟨rfl, b1⟩))
          go_ret
          exact ⟨by rw [attrsOK_false hlt (aok_no2 (by rw [Hy.out]; exact e2))]; rfl, nx (nx hb b0) b1⟩
        | true =>
          rw [e2] at c66
          cases q with
          | zero =>
            rw [Nat.zero_mul, Nat.add_zero] at hc hd
            go_wp2_with (first | (go_at_call 215; refine c67.mono ?_; rintro e w' ⟨rfl, rfl⟩) | (go_at_call 85; refine c66.mono ?_; rintro e w1 ⟨rfl, b1⟩))
            go_quiet (fail)
            go_wp2_with fail
            go_roundw
            all_goals first
              | (case rel =>
                  refine ⟨1, by omega, by go_num, fun j hj hj1 => ?_, drewN_below (nx (nx hb b0) b1) nq⟩
                  obtain rfl : j = 0 := by omega
                  exact aok_yes0 (by rw [Hx.out]; exact e1) (by rw [Hy.out]; exact e2))
              | (case measure => simp only [intOf]; omega)
          | succ j =>
            obtain ⟨g', o', E, -, hp, -⟩ := attr_at hN (show j < n.length by omega)
            obtain ⟨rfl, rfl⟩ : g = g' /\ o = o' := by cases E; exact ⟨rfl, rfl⟩
            have hp := below_cell hp (nx hb b0)
            obtain ⟨p, hp'⟩ : ∃ p, (n[j]'(by omega)).1 = p := ⟨_, rfl⟩
            rw [hp'] at hp
            have Hp : Hid ((n[j]'(by omega)).1 = p) := hp'
            clear hp' E
            have hge := cmpB_ge p x
            have c59 := fun w => cmp_c p x w
            generalize cmpB p x = cc at *
            cases e3 : lt p x with
            | false =>
              rw [e3] at hge
              have hge : decide ((0 : Int) <= cc) = true := hge
              go_wp2_with (first | (go_at_call 215; refine c67.mono ?_; rintro e w' ⟨rfl, rfl⟩) | (go_at_call 85; refine c66.mono ?_; rintro e w1 ⟨rfl, b1⟩; have hp1 := below_cell hp b1; have k01 := below_cell k0 b1))
              go_quiet ((go_at_call 230; exact Calls.quiet_of_same (c59 _)))
              go_wp2_with fail
              go_ret
              exact ⟨by rw [attrsOK_false hlt (aok_no3 (by rw [Hx.out, Hp.out]; exact e3))]; rfl, drewN_below (nx (nx hb b0) b1) nq⟩
            | true =>
              rw [e3] at hge
              have hge : decide ((0 : Int) <= cc) = false := hge
              go_wp2_with (first | (go_at_call 215; refine c67.mono ?_; rintro e w' ⟨rfl, rfl⟩) | (go_at_call 85; refine c66.mono ?_; rintro e w1 ⟨rfl, b1⟩; have hp1 := below_cell hp b1; have k01 := below_cell k0 b1))
              go_quiet ((go_at_call 230; exact Calls.quiet_of_same (c59 _)))
              go_wp2_with fail
              go_roundw
              all_goals first
                | (case rel =>
                    refine ⟨j + 2, by omega, by go_num, fun i hi hi1 => ?_, drewN_below (nx (nx hb b0) b1) nq⟩
                    by_cases ei : i = j + 1
                    · subst ei
                      exact aok_yes (by rw [Hx.out]; exact e1) (by rw [Hy.out]; exact e2) (by rw [Hx.out, Hp.out]; exact e3)
                    · exact HA.out i hi (by omega))
                | (case measure => simp only [intOf]; omega)
    · have hlt' : decide ((q : Int) < (n.length : Int)) = false := by simp; omega
      go_wp2_with fail
      go_ret
      exact ⟨by rw [attrsOK_true fun i hi => hall i hi (by omega)]; rfl, hb⟩
end Go.Proofs.YtaiackmmmlhgbaaGreat.TAttrs
namespace Go.Proofs.YtaiackmmmlhgbaaGreat.TMay
open Go.RowKit TBase TPure TAttrs
theorem bx {w : World} {o : Obj} : Below w.heap.size w (w.alloc o) := (Below.refl _ _).alloc (Nat.le_refl _) _
theorem mayBe_c (m : Nat) (v : Value) (c : T) (w : World) (h : In false All w m v c) :
    Calls prog 224 #[v] w fun e w' => e = .returned (.bool (alone c)) /\ Below w.heap.size w w' := by
  obtain ⟨m', nv, lv, -, rfl, hg, hs, hn, hl⟩ := h.shape
  have hn0 := hn
  have hl0 := hl
  obtain ⟨a1, c1, rfl, hk1, hk2, hk3, -⟩ := hn
  obtain ⟨a2, c2, rfl, hj1, hj2, hj3, -⟩ := hl
  have c66 := short_c c.s (by omega) (w.alloc (.cells #[.string c.g, .string c.s, .slice a1 c.n.length c1, .slice a2 c.l.length c2] 68))
  have c67 := UWord.tag_c c.g (by omega) (w.alloc (.cells #[.string c.g, .string c.s, .slice a1 c.n.length c1, .slice a2 c.l.length c2] 68))
  have c68 := attrs_c _ c.n _ (hn0.below (bx (o := .cells #[.string c.g, .string c.s, .slice a1 c.n.length c1, .slice a2 c.l.length c2] 68)))
  unfold alone
  clear hn0 hl0 h
  generalize c.n.length = n1 at *
  generalize c.l.length = n2 at *
  generalize UBase.word c.g 45 = b1 at *
  generalize attrsOK c.n = b2 at *
  generalize tg c.s = b3 at *
  generalize c.g = g at *
  generalize c.s = s at *
  have b0 := bx (w := w) (o := .cells #[.string g, .string s, .slice a1 n1 c1, .slice a2 n2 c2] 68)
  cases hge : g.toList.isEmpty with
  | true =>
    rw [if_pos rfl]
    by_cases h1 : n1 = 0
    · subst h1
      by_cases h2 : n2 = 0
      · subst h2
        go_enter func224, ntmps224
        go_wp2_with (first | (go_at_call 85; refine c66.mono ?_; rintro e w1 ⟨rfl, b1⟩))
        go_ret
        exact ⟨by simp, nx b0 b1⟩
      · have h2' : ((n2 : Int) == 0) = false := by simp; omega
        go_enter func224, ntmps224
        go_wp2_with fail
        go_ret
        exact ⟨by simp [h2], b0⟩
    · have h1' : ((n1 : Int) == 0) = false := by simp; omega
      go_enter func224, ntmps224
      go_wp2_with fail
      go_ret
      exact ⟨by simp [h1], b0⟩
  | false =>
    rw [if_neg (by simp)]
    cases b1 with
    | false =>
      go_enter func224, ntmps224
      go_wp2_with (first | (go_at_call 215; refine c67.mono ?_; rintro e w1 ⟨rfl, rfl⟩))
      go_ret
      exact ⟨by simp, b0⟩
    | true =>
      cases hse : s.toList.isEmpty with
      | false =>
        go_enter func224, ntmps224
        go_wp2_with (first | (go_at_call 215; refine c67.mono ?_; rintro e w1 ⟨rfl, rfl⟩))
        go_ret
        exact ⟨by simp, b0⟩
      | true =>
        go_enter func224, ntmps224
        go_wp2_with (first | (go_at_call 215; refine c67.mono ?_; rintro e w1 ⟨rfl, rfl⟩) | (go_at_call 227; refine c68.mono ?_; rintro e w2 ⟨rfl, b2⟩))
        go_ret
        exact ⟨by simp, nx b0 b2⟩
def flt (c : T) (d k : Nat) : Nat := if 4096 < k then 702 else if 64 < d then 701 else if alone c = true then 0 else 700
theorem fault_c (m : Nat) (v : Value) (c : T) (d k : Nat) (hd : d <= 65) (hk : k <= 4097) (w : World) (h : In false All w m v c) :
    Calls prog 214 #[v, .int .i64 d, .int .i64 k] w fun e w' => e = .returned (.int .i64 (flt c d k : Nat)) /\ Below w.heap.size w w' := by
  obtain ⟨v0, v1, v2, v3, rfl, -⟩ := h.four
  have c60 := mayBe_c m _ c _ (h.below (bx (o := .cells #[v0, v1, v2, v3] 68)))
  unfold flt
  generalize alone c = b at *
  clear h
  by_cases h1 : 4096 < k
  · have h1' : decide ((4096 : Int) < (k : Int)) = true := by simp; omega
    rw [if_pos h1]
    go_enter func214, ntmps214
    go_wp2_with fail
    go_ret
    exact ⟨rfl, bx⟩
  · have h1' : decide ((4096 : Int) < (k : Int)) = false := by simp; omega
    rw [if_neg h1]
    by_cases h2 : 64 < d
    · have h2' : decide ((64 : Int) < (d : Int)) = true := by simp; omega
      rw [if_pos h2]
      go_enter func214, ntmps214
      go_wp2_with fail
      go_ret
      exact ⟨rfl, bx⟩
    · have h2' : decide ((64 : Int) < (d : Int)) = false := by simp; omega
      rw [if_neg h2]
      cases b with
      | true =>
        go_enter func214, ntmps214
        go_wp2_with (first | (go_at_call 224; refine c60.mono ?_; rintro e w1 ⟨rfl, b1⟩))
        go_ret
        exact ⟨rfl, nx bx b1⟩
      | false =>
        go_enter func214, ntmps214
        go_wp2_with (first | (go_at_call 224; refine c60.mono ?_; rintro e w1 ⟨rfl, b1⟩))
        go_ret
        exact ⟨rfl, nx bx b1⟩
end Go.Proofs.YtaiackmmmlhgbaaGreat.TMay
namespace Go.Proofs.YtaiackmmmlhgbaaGreat.YAp
open Go.RowKit
theorem app_seen {P : Program} {w : World} {ops : Array Oper} {rest : List Oper} {o : Oper} {a : Act} {Q : Exit -> Act -> World -> Prop} (hgd : o.guard = none) (s x : Operand) (t : TypeId)
    (ho : o.op = .call { callee := .builtin .append, args := #[s, x], argTypes := #[t, t] })
    (base : Nat) (e : TypeId) (i : TypeInfo) (z : Value) (size bytes : Nat) (ht : P.underlying t = some (.slice e)) (hi : P.info? e = some i) (hz : i.zero = some z)
    (hsize : i.size = size) (hby : i.bytes = bytes) (hzs : z.cells.size = size) (hsz : 0 < size)
    (v : Value) (n : Nat) (xs : List Value) (hs : a.eval s = v) (hown : w.ownsRow base e size v n xs)
    (ax : Option Addr) (m cap2 : Nat) (news : List Value) (hx : a.eval x = .slice ax m cap2) (h2 : (ax = none /\ m = 0 /\ cap2 = 0) \/ ∃ ad : Addr, ax = some ad /\ ∀ j u, news[j]? = some u -> w.cell? (ad.add j) = some u) (hl : news.length = m * size) (h1 : ∀ u ∈ news, u.oneCell' = true)
    (h63 : n + m <= maxLen) (hbytes : (n + m) * bytes <= 140737488355328) (hbase : base <= w.heap.size)
    (h : ∀ v' w', w'.ownsRow base e size v' (n + m) (xs ++ news) -> w.grownBy w' v.ownBlock -> (v'.ownBlock = v.ownBlock \/ v'.ownBlock = some w.heap.size) -> wpList P ops Q rest (a.put o.dst v') w') :
    wpList P ops Q (o :: rest) a w := by
  rcases h2 with ⟨rfl, rfl, rfl⟩ | ⟨ad, rfl, hc⟩
  · obtain rfl : news = [] := List.eq_nil_of_length_eq_zero (by omega)
    refine wpList_append_own_none hgd s x t ho base e i size ht hi v n xs hs hown hx (h v w ?_ ⟨rfl, rfl, rfl, Nat.le_refl _, fun _ _ _ => rfl⟩ (.inl rfl))
    simpa using hown
  · exact wpList_append_own_at _ hgd s x t ho base e i z size bytes ht hi hz hsize hby hzs hsz v n xs hs hown ad m cap2 news hx hl hc h1 h63 hbytes hbase (fun v' w' k1 k2 _ k4 => h v' w' k1 k2 k4)
theorem seen_src {w : World} {ax : Option Addr} {n cap : Nat} {X : List UInt8} (h : Leb.Seen w (.slice ax n cap) X) : (ax = none /\ n = 0 /\ cap = 0) \/ ∃ ad : Addr, ax = some ad /\ ∀ j u, (Leb.cellsL X)[j]? = some u -> w.cell? (ad.add j) = some u := by
  obtain ⟨a, c, e, h1, h2, h3, h4⟩ := h
  cases e
  cases ax with
  | none => have := h3 rfl; exact .inl ⟨rfl, by omega, this⟩
  | some p =>
    obtain ⟨g, o, sp⟩ := p
    by_cases hX : X.length = 0
    · obtain rfl := List.eq_nil_of_length_eq_zero hX
      exact .inr ⟨_, rfl, fun j u hu => by simp [Leb.cellsL] at hu⟩
    · obtain rfl := (h4 g o sp rfl 0 (by omega)).1
      refine .inr ⟨⟨g, o, none⟩, rfl, fun j u hu => ?_⟩
      rw [Leb.add_none]
      simp only [Leb.cellsL, List.getElem?_map, Option.map_eq_some_iff] at hu
      obtain ⟨c, hc, rfl⟩ := hu
      obtain ⟨hj, rfl⟩ := List.getElem?_eq_some_iff.1 hc
      exact (h4 g o none rfl j hj).2
end Go.Proofs.YtaiackmmmlhgbaaGreat.YAp
namespace Go.Proofs.YtaiackmmmlhgbaaGreat.RAlone
open Go.RowKit TBase TPure TAttrs TMay
theorem ralone_attrs (g s : ByteArray) (a1 a2 : Option Addr) (c1 c2 n2 : Nat) (n : List (ByteArray × ByteArray)) (w : World) (hg : g.size <= 140737488351232) (hge : g.toList.isEmpty = false) (hw : UBase.word g 45 = true) (hse : s.toList.isEmpty = true)
    (h : Ax false All w (.slice a1 n.length c1) n) :
    Calls prog 69 #[.agg #[.string g, .string s, .slice a1 n.length c1, .slice a2 n2 c2]] w fun e w' => e = .returned (.bool (attrsOK n)) /\ Below w.heap.size w w' := by
  have c58 := UWord.rtag_c g (by omega) (w.alloc (.cells #[.string g, .string s, .slice a1 n.length c1, .slice a2 n2 c2] 68))
  rw [hw] at c58
  obtain ⟨a, cap, E, hlc, hm, hlen, hsz, hnil, hN⟩ := h
  cases E
  go_enter func69, ntmps69
  go_wp2_with (first | (go_at_call 116; refine c58.mono ?_; rintro e w1 ⟨rfl, rfl⟩))
  go_loopw [3] (fun i wr => ∃ q : Nat, q <= n.length /\ i = .int .i64 q /\ (∀ j (h : j < n.length), j < q -> aok n j h = true) /\ Below (w.heap.size + 1) (w.alloc (.cells #[.string g, .string s, .slice a1 n.length c1, .slice a2 n2 c2] 68)) wr) (fun i _ => n.length - (intOf i).toNat)
  case atStart => exact ⟨0, by omega, rfl, fun j _ h => by omega, Below.refl _ _⟩
  case round =>
    obtain ⟨q, hq, rfl, hall, hb⟩ := hrel
    obtain ⟨x0, x1, x2, x3⟩ := four_box (box_at hb)
    have hbw := below_box hb
    by_cases hlt : q < n.length
    · have hn := hsz n[q] (List.getElem_mem hlt)
      obtain ⟨g1, o, rfl, -, hc, hd⟩ := attr_at hN hlt
      have hc := below_cell hc hbw
      have hd := below_cell hd hbw
      have HA : Hid (∀ j (h : j < n.length), j < q -> aok n j h = true) := hall
      clear hall
      obtain ⟨x, hx⟩ : ∃ x, n[q].1 = x := ⟨_, rfl⟩
      obtain ⟨y, hy⟩ : ∃ y, n[q].2 = y := ⟨_, rfl⟩
      rw [hx] at hc hn
      rw [hy] at hd hn
      have Hx : Hid (n[q].1 = x) := hx
      have Hy : Hid (n[q].2 = y) := hy
      clear hx hy
      have c58 := fun w => UWord.rtag_c x (by omega) w
      have c57 := fun w => good_c y (by omega) w
      cases e1 : UBase.word x 45 with
      | false =>
        rw [e1] at c58
        go_wp2_with fail
        go_quiet ((go_at_call 116; exact Calls.quiet_of_same (c58 _)))
        go_wp2_with fail
        go_ret
        exact ⟨by rw [attrsOK_false hlt (aok_no1 (by rw [Hx.out]; exact e1))]; rfl, drewN_below hbw nq⟩
      | true =>
        rw [e1] at c58
        cases e2 : tg y with
        | false =>
          rw [e2] at c57
          go_wp2_with fail
          go_quiet (first | (go_at_call 116; exact Calls.quiet_of_same (c58 _)) | (go_at_call 67; exact Calls.quiet_of_same (c57 _)))
          go_wp2_with fail
          go_ret
          exact ⟨by rw [attrsOK_false hlt (aok_no2 (by rw [Hy.out]; exact e2))]; rfl, drewN_below hbw nq⟩
        | true =>
          rw [e2] at c57
          cases q with
          | zero =>
            rw [Nat.zero_mul, Nat.add_zero] at hc hd
            go_wp2_with fail
            go_quiet (first | (go_at_call 116; exact Calls.quiet_of_same (c58 _)) | (go_at_call 67; exact Calls.quiet_of_same (c57 _)))
            go_wp2_with fail
            go_roundw
            case rel =>
              refine ⟨1, by omega, by go_num, fun j hj hj1 => ?_, drewN_below hb nq⟩
              obtain rfl : j = 0 := by omega
              exact aok_yes0 (by rw [Hx.out]; exact e1) (by rw [Hy.out]; exact e2)
            case measure => simp only [intOf]; omega
          | succ j =>
            obtain ⟨g', o', E, -, hp, -⟩ := attr_at hN (show j < n.length by omega)
            obtain ⟨rfl, rfl⟩ : g1 = g' /\ o = o' := by cases E; exact ⟨rfl, rfl⟩
            have hp := below_cell hp hbw
            obtain ⟨p, hp'⟩ : ∃ p, (n[j]'(by omega)).1 = p := ⟨_, rfl⟩
            rw [hp'] at hp
            have Hp : Hid ((n[j]'(by omega)).1 = p) := hp'
            clear hp' E
            cases e3 : Op.bytesLess p.toList x.toList with
            | false =>
              go_wp2_with fail
              go_quiet (first | (go_at_call 116; exact Calls.quiet_of_same (c58 _)) | (go_at_call 67; exact Calls.quiet_of_same (c57 _)))
              go_wp2_with fail
              go_ret
              exact ⟨by rw [attrsOK_false hlt (aok_no3 (by rw [Hx.out, Hp.out]; exact e3))]; rfl, drewN_below hbw nq⟩
            | true =>
              go_wp2_with fail
              go_quiet (first | (go_at_call 116; exact Calls.quiet_of_same (c58 _)) | (go_at_call 67; exact Calls.quiet_of_same (c57 _)))
              go_wp2_with fail
              go_roundw
              case rel =>
                refine ⟨j + 2, by omega, by go_num, fun i hi hi1 => ?_, drewN_below hb nq⟩
                by_cases ei : i = j + 1
                · subst ei
                  exact aok_yes (by rw [Hx.out]; exact e1) (by rw [Hy.out]; exact e2) (by rw [Hx.out, Hp.out]; exact e3)
                · exact HA.out i hi (by omega)
              case measure => simp only [intOf]; omega
    · have hlt' : decide ((q : Int) < (n.length : Int)) = false := by simp; omega
      go_wp2_with fail
      go_ret
      exact ⟨by rw [attrsOK_true fun i hi => hall i hi (by omega)]; rfl, hbw⟩
theorem ralone_c (m : Nat) (v : Value) (c : T) (w : World) (h : In false All w m v c) :
    Calls prog 69 #[v] w fun e w' => e = .returned (.bool (alone c)) /\ Below w.heap.size w w' := by
  obtain ⟨m', nv, lv, -, rfl, hg, hs, hn, hl⟩ := h.shape
  have hn0 := hn
  obtain ⟨a1, c1, rfl, hk1, hk2, hk3, -⟩ := hn
  obtain ⟨a2, c2, rfl, hj1, hj2, hj3, -⟩ := hl
  have c57 := good_c c.s (by omega) (w.alloc (.cells #[.string c.g, .string c.s, .slice a1 c.n.length c1, .slice a2 c.l.length c2] 68))
  have c58 := UWord.rtag_c c.g (by omega) (w.alloc (.cells #[.string c.g, .string c.s, .slice a1 c.n.length c1, .slice a2 c.l.length c2] 68))
  have cA := fun h1 h2 h3 => ralone_attrs c.g c.s a1 a2 c1 c2 c.l.length c.n w hg h1 h2 h3 hn0
  unfold alone
  clear hn0 h
  generalize c.n.length = n1 at *
  generalize c.l.length = n2 at *
  generalize UBase.word c.g 45 = b1 at *
  generalize attrsOK c.n = b2 at *
  generalize tg c.s = b3 at *
  generalize c.g = g at *
  generalize c.s = s at *
  have b0 := bx (w := w) (o := .cells #[.string g, .string s, .slice a1 n1 c1, .slice a2 n2 c2] 68)
  cases hge : g.toList.isEmpty with
  | true =>
    rw [if_pos rfl]
    clear cA
    by_cases h1 : n1 = 0
    · subst h1
      by_cases h2 : n2 = 0
      · subst h2
        go_enter func69, ntmps69
        go_wp2_with (first | (go_at_call 67; refine c57.mono ?_; rintro e w1 ⟨rfl, rfl⟩))
        go_ret
        exact ⟨by simp, b0⟩
      · have h2' : ((n2 : Int) == 0) = false := by simp; omega
        go_enter func69, ntmps69
        go_wp2_with fail
        go_ret
        exact ⟨by simp [h2], b0⟩
    · have h1' : ((n1 : Int) == 0) = false := by simp; omega
      go_enter func69, ntmps69
      go_wp2_with fail
      go_ret
      exact ⟨by simp [h1], b0⟩
  | false =>
    rw [if_neg (by simp)]
    cases b1 with
    | false =>
      clear cA
      go_enter func69, ntmps69
      go_wp2_with (first | (go_at_call 116; refine c58.mono ?_; rintro e w1 ⟨rfl, rfl⟩))
      go_ret
      exact ⟨by simp, b0⟩
    | true =>
      cases hse : s.toList.isEmpty with
      | false =>
        clear cA
        go_enter func69, ntmps69
        go_wp2_with (first | (go_at_call 116; refine c58.mono ?_; rintro e w1 ⟨rfl, rfl⟩))
        go_ret
        exact ⟨by simp, b0⟩
      | true => exact cA hge rfl hse
end Go.Proofs.YtaiackmmmlhgbaaGreat.RAlone

/- What a call asks ahead: contracts of needAhead, isText, isAhead, within. -/
import Derived.Test.YtnpamcgbnimdkaaDKids
namespace Go.Proofs.Ytnpamcgbnimdkaa.DAsk
open Go.RowKit Go.Proofs.Ytnpamcgbnimdkaa.TBase Go.Proofs.Ytnpamcgbnimdkaa.DBase Go.Proofs.Ytnpamcgbnimdkaa.DJoin Go.Proofs.Ytnpamcgbnimdkaa.DNeed Go.Proofs.Ytnpamcgbnimdkaa.DKids
set_option linter.unusedVariables false

/-- The handles that are asked for. -/
def ask (L : List Int) (b : Int) : List Int := if b = -1 then L else L ++ [b]
set_option maxRecDepth 20000 in
theorem ahead_of {w : World} {B : Nat} (hB : B ≤ w.heap.size) {v : Value} {L : List Int} (hv : Oi w B v L) (hl : L.length ≤ 100) (b : Int) (x : Value) (R : Int)
    (hneed : ∀ w' v', Below B w w' → Oi w' B v' (ask L b) → Calls Try.prog 54 #[x, v'] w' fun e w2 => e = .returned (.int .i64 R) ∧ w2 = w') :
    Calls Try.prog 48 #[x, .int .i64 b, v] w fun e w' => e = .returned (.int .i64 R) ∧ Below B w w' := by
  obtain ⟨i0, hi, hz0, hz1, hz2⟩ := info_parts infoI
  have HN : Hid (∀ w' v', Below B w w' → Oi w' B v' (ask L b) → Calls Try.prog 54 #[x, v'] w' fun e w2 => e = .returned (.int .i64 R) ∧ w2 = w') := hneed
  by_cases h : b = -1
  · subst h
    have e : ask L (-1) = L := by simp [ask]
    rw [e] at HN
    have cn := HN.out w v (Below.refl _ _) hv
    clear hneed hv
    go_enter Try.func48, Try.ntmps48
    go_wp2_with (first | (refine cn.mono ?_; rintro e w' ⟨rfl, hw'⟩))
    go_ret
    exact ⟨rfl, hw' ▸ Below.refl _ _⟩
  · have hd : (b == -1) = false := by simp [h]
    have e : ask L b = L ++ [b] := by simp [ask, h]
    rw [e] at HN
    have hrow1 := World.ownsRow.alloc hv (.cells #[.int .i64 b] 3)
    have HO : Hid (Oi w B v L) := hv
    clear hneed hv
    go_enter Try.func48, Try.ntmps48
    go_wp2_with (first
      | (at_builtin; refine wpList_append_own_at _ rfl _ _ 37 rfl B 3 i0 (.int .i64 0) 1 8 Try.underlying37 hi hz0 hz1 hz2 rfl (by decide) _ _ _ rfl hrow1 ⟨w.heap.size, 0, none⟩ 1 1 [.int .i64 b] rfl rfl (cell_one_new _ _ _) (by simp [Value.oneCell']) (by unfold maxLen; omega) (by omega) (by simp; omega) ?_))
    intro v' w2 hown' hgrow _ hat
    have hb3 : Below B w w2 := (((Below.refl B w).alloc hB (.cells #[.int .i64 b] 3)).grown hgrow (by simp; omega) (fun j hj => (World.ownsRow.lt HO.out j hj).1))
    have ho2 : Oi w2 B v' (L ++ [b]) := by
      unfold Oi
      rw [List.map_append, List.length_append]
      exact hown'
    have cn := HN.out w2 v' hb3 ho2
    clear hown' hgrow hat hrow1 ho2
    go_wp2_with (first | (refine cn.mono ?_; rintro e w' ⟨rfl, hw'⟩))
    go_ret
    exact ⟨rfl, hw' ▸ hb3⟩
theorem ahead_c {w : World} {p gc n : Nat} {fv : Value} {q : Nat → Int} {c : Nat → Nd} (hb : Bx w p gc n fv q) (hc : Cr w gc n c) (hn : n ≤ 8192) {B : Nat} (hp : p < B) (hg : gc < B) (hB : B ≤ w.heap.size) {v : Value} {L : List Int} (hv : Oi w B v L) (hl : L.length ≤ 100) (b : Int) :
    Calls Try.prog 48 #[.pointer (some ⟨p, 0, none⟩), .int .i64 b, v] w fun e w' => e = .returned (.int .i64 (nd c n (ask L b))) ∧ Below B w w' :=
  ahead_of hB hv hl b _ _ fun w' v' hbel ho => need_c (hb.keep (hbel.block p hp)) (hc.keep (hbel.block gc hg)) hn ho.hs
theorem ahead_nil {w : World} {B : Nat} (hB : B ≤ w.heap.size) {v : Value} {L : List Int} (hv : Oi w B v L) (hl : L.length ≤ 100) (b : Int) :
    Calls Try.prog 48 #[.pointer none, .int .i64 b, v] w fun e w' => e = .returned (.int .i64 1) ∧ Below B w w' :=
  ahead_of hB hv hl b _ _ fun w' v' hbel ho => need_nil v' w'
/-- A text? -/
def tx (c : Nat → Nd) (x : Nat) : Bool := !decide (x = 0) && (c x).gt.toList.isEmpty
theorem isText_c {w : World} {p gc n : Nat} {fv : Value} {q : Nat → Int} {c : Nat → Nd} (hb : Bx w p gc n fv q) (hc : Cr w gc n c) {x : Nat} (hx : x < n) (hn : n ≤ 8192) :
    Calls Try.prog 49 #[.pointer (some ⟨p, 0, none⟩), .int .i64 x] w fun e w' => e = .returned (.bool (tx c x)) ∧ w = w' := by
  have k0 := hb.at0
  have q1 := hc.at hx (k := 1) (by omega)
  rw [show (c x).put 1 = .string (c x).gt from rfl] at q1
  unfold tx
  by_cases h : x = 0
  · subst h
    clear hb hc
    have e : (!decide (0 = 0) && (c 0).gt.toList.isEmpty) = false := by simp
    rw [e]
    go_enter Try.func49, Try.ntmps49
    go_wp2_with fail
    go_ret
    exact ⟨rfl, rfl⟩
  · have hd : ((x : Int) == 0) = false := by simp; omega
    have e : (!decide (x = 0) && (c x).gt.toList.isEmpty) = (c x).gt.toList.isEmpty := by simp [h]
    rw [e]
    clear hb hc e
    generalize (c x).gt = g at *
    have hne : ((x : Int) != 0) = true := by simp; omega
    go_enter Try.func49, Try.ntmps49
    go_wp2_with fail
    go_ret
    exact ⟨rfl, rfl⟩
theorem isAhead_end (x : Value) (y : Int) (w : World) : Calls Try.prog 51 #[x, .int .i64 (-1), .int .i64 y] w fun e w' => e = .returned (.bool true) ∧ w = w' := by
  go_enter Try.func51, Try.ntmps51
  go_wp2_with fail
  go_ret
  exact ⟨rfl, rfl⟩
theorem isAhead_c {w : World} {p gc n : Nat} {fv : Value} {q : Nat → Int} {c : Nat → Nd} (hb : Bx w p gc n fv q) (hc : Cr w gc n c) {k y : Nat} (hk : k < n) (hn : n ≤ 8192) :
    Calls Try.prog 51 #[.pointer (some ⟨p, 0, none⟩), .int .i64 k, .int .i64 y] w fun e w' => e = .returned (.bool (en (c k).pa == (y : Int))) ∧ w = w' := by
  have k0 := hb.at0
  have q4 := hc.at hk (k := 4) (by omega)
  rw [show (c k).put 4 = .int .i64 (en (c k).pa) from rfl] at q4
  have hd : ((k : Int) == -1) = false := by simp
  clear hb hc
  generalize (c k).pa = o at *
  go_enter Try.func51, Try.ntmps51
  go_wp2_with fail
  go_ret
  exact ⟨rfl, rfl⟩
/-- From parent to parent. -/
def Anc (c : Nat → Nd) (n : Nat) : Option Nat → List Nat → Prop
  | o, [] => o = none
  | o, k :: r => o = some k ∧ k < n ∧ Anc c n (c k).pa r
/-- How many are left, from a link on. -/
def rem (us : List Nat) (t : Value) : Nat := if intOf t < 0 then 0 else us.length - us.idxOf (intOf t).toNat
theorem rem_int (us : List Nat) (z : Int) : rem us (.int .i64 z) = if z < 0 then 0 else us.length - us.idxOf z.toNat := rfl
set_option maxRecDepth 20000 in
theorem within_c {w : World} {p gc n : Nat} {fv : Value} {q : Nat → Int} {c : Nat → Nd} (hb : Bx w p gc n fv q) (hc : Cr w gc n c) (hn : n ≤ 8192) {x y : Nat} {us : List Nat} (hu : Anc c n (some x) us) (hnd : us.Nodup) :
    Calls Try.prog 50 #[.pointer (some ⟨p, 0, none⟩), .int .i64 x, .int .i64 y] w fun e w' => e = .returned (.bool (decide (y ∈ us))) ∧ w = w' := by
  have k0 := hb.at0
  have HC : Hid (Cr w gc n c) := hc
  have HD : Hid us.Nodup := hnd
  clear hb hc hnd
  go_enter Try.func50, Try.ntmps50
  go_wp2_with fail
  go_loopw [1] (fun t wr => ∃ ds rs o, us = ds ++ rs ∧ y ∉ ds ∧ t = .int .i64 (en o) ∧ Anc c n o rs ∧ wr = w) (fun t _ => rem us t)
  case atStart => exact ⟨[], us, some x, rfl, by simp, rfl, hu, rfl⟩
  case round =>
    obtain ⟨ds, rs, o, he, hy, rfl, ha, rfl⟩ := hrel
    cases rs with
    | nil =>
      have ho : o = none := ha
      subst ho
      have e : decide (y ∈ us) = false := by rw [he, List.append_nil]; simp [hy]
      have hq : ((-1 : Int) == (y : Int)) = false := by simp
      have HE' : Hid (decide (y ∈ us) = false) := e
      simp only [en_none]
      clear he hy ha HC HD hu e
      go_wp2_with fail
      go_ret
      exact ⟨by rw [HE'.out]; rfl, rfl⟩
    | cons k r =>
      obtain ⟨rfl, hk, ha⟩ := ha
      have hd1 : ((k : Int) != -1) = true := by simp
      by_cases hky : k = y
      · subst hky
        have e : decide (k ∈ us) = true := by rw [he]; simp
        have hq : ((k : Int) == (k : Int)) = true := by simp
        have hq2 : ((k : Int) != (k : Int)) = false := by simp
        have HE' : Hid (decide (k ∈ us) = true) := e
        simp only [en_some]
        clear he hy ha HC HD hu e
        go_wp2_with fail
        go_ret
        exact ⟨by rw [HE'.out]; rfl, rfl⟩
      · have hq : ((k : Int) != (y : Int)) = true := by simp; omega
        have q4 := HC.out.at hk (k := 4) (by omega)
        rw [show (c k).put 4 = .int .i64 (en (c k).pa) from rfl] at q4
        have HE : Hid (us = ds ++ k :: r) := he
        have HA : Hid (Anc c n (c k).pa r) := ha
        have HY : Hid (y ∉ ds ++ [k]) := by
          simp only [List.mem_append, List.mem_singleton, not_or]
          exact ⟨hy, fun h => hky h.symm⟩
        have HM' : rem us (.int .i64 (en (c k).pa)) < rem us (.int .i64 (k : Int)) := by
          have hnd := HD.out
          rw [he] at hnd
          have hkd : k ∉ ds := fun h => (List.nodup_append.1 hnd).2.2 k h k List.mem_cons_self rfl
          have i1 : us.idxOf k = ds.length := by
            rw [he, List.idxOf_append, if_neg hkd]
            simp
          have hl : us.length = ds.length + (r.length + 1) := by rw [he]; simp
          rw [rem_int, rem_int, if_neg (show ¬ (k : Int) < 0 by omega), Int.toNat_natCast, i1]
          cases r with
          | nil =>
            have hno : (c k).pa = none := ha
            rw [hno, en_none, if_pos (by omega)]
            omega
          | cons k2 r2 =>
            obtain ⟨h2, -⟩ := ha
            rw [h2, en_some, if_neg (by omega), Int.toNat_natCast]
            have hk2 : k2 ∉ ds ++ [k] := by
              rw [show ds ++ k :: k2 :: r2 = (ds ++ [k]) ++ k2 :: r2 by simp] at hnd
              exact fun h => (List.nodup_append.1 hnd).2.2 k2 h k2 List.mem_cons_self rfl
            have i2 : us.idxOf k2 = ds.length + 1 := by
              rw [he, show ds ++ k :: k2 :: r2 = (ds ++ [k]) ++ k2 :: r2 by simp, List.idxOf_append, if_neg hk2]
              simp
            rw [i2]
            simp only [List.length_cons] at hl
            omega
        have HM : Hid (rem us (.int .i64 (en (c k).pa)) < rem us (.int .i64 (k : Int))) := HM'
        clear HM'
        generalize (c k).pa = o2 at *
        simp only [en_some]
        clear he hy ha hu
        go_wp2_with fail
        go_roundw
        case rel => exact ⟨ds ++ [k], r, o2, by rw [HE.out]; simp, HY.out, rfl, HA.out, by trivial⟩
        case measure => exact HM.out
end Go.Proofs.Ytnpamcgbnimdkaa.DAsk

/- What a call asks ahead: contracts of need, needAhead, needElement, isText, isAhead. -/
import Derived.Test.YtnpamcgbnimdkaaDJoin
import Derived.LoopTactic
namespace Go.Proofs.Ytnpamcgbnimdkaa.DNeed
open Go.RowKit Go.Proofs.Ytnpamcgbnimdkaa.TBase Go.Proofs.Ytnpamcgbnimdkaa.DBase Go.Proofs.Ytnpamcgbnimdkaa.DJoin
set_option linter.unusedVariables false

/-- Is a handle live? -/
def live (c : Nat → Nd) (n : Nat) (h : Int) : Bool := decide (0 ≤ h) && (decide (h < (n : Int)) && (c h.toNat).lv)
def nd (c : Nat → Nd) (n : Nat) (L : List Int) : Int := if L.all (live c n) = true then 0 else 803
/-- Handles in a row. -/
def Hs (w : World) (v : Value) (L : List Int) : Prop := ∃ a cap, v = .slice a L.length cap ∧ L.length ≤ cap ∧ cap ≤ 9223372036854775807 ∧ (L = [] ∨ ∃ g o, a = some ⟨g, o, none⟩ ∧ ∀ j (h : j < L.length), w.cell? ⟨g, o + j, none⟩ = some (.int .i64 L[j]))
theorem need_nil (v : Value) (w : World) : Calls Try.prog 54 #[.pointer none, v] w fun e w' => e = .returned (.int .i64 1) ∧ w' = w := by
  go_enter Try.func54, Try.ntmps54
  go_wp2_with fail
  go_ret
  exact ⟨rfl, rfl⟩
theorem all_take_succ {p : Int → Bool} {L : List Int} {k : Nat} (h : k < L.length) (ht : (L.take k).all p = true) (hk : p L[k] = true) : (L.take (k + 1)).all p = true := by
  rw [List.take_succ_eq_append_getElem h, List.all_append, ht]
  simp [hk]
set_option maxRecDepth 20000 in
set_option maxHeartbeats 800000 in
theorem need_c {w : World} {p gc n : Nat} {fv : Value} {q : Nat → Int} {c : Nat → Nd} (hb : Bx w p gc n fv q) (hc : Cr w gc n c) (hn : n ≤ 8192) {v : Value} {L : List Int} (hv : Hs w v L) :
    Calls Try.prog 54 #[.pointer (some ⟨p, 0, none⟩), v] w fun e w' => e = .returned (.int .i64 (nd c n L)) ∧ w' = w := by
  obtain ⟨a, cap, rfl, hl, hm, hL⟩ := hv
  have k0 := hb.at0
  have HQ : Hid (∀ k : Nat, k < n → w.cell? ⟨gc, k * 9, none⟩ = some (.bool (c k).lv)) := fun k hk => hc.at hk (k := 0) (by omega)
  clear hb hc
  go_enter Try.func54, Try.ntmps54
  go_wp2_with fail
  go_loopw [6, 11] (fun _ i wr => ∃ k : Nat, i = .int .i64 k ∧ k ≤ L.length ∧ (L.take k).all (live c n) = true ∧ wr = w) (fun _ i _ => L.length - (intOf i).toNat)
  case atStart => exact ⟨0, rfl, by omega, by simp, rfl⟩
  case round =>
    obtain ⟨k, rfl, hk, hall, rfl⟩ := hrel
    by_cases hlt : k < L.length
    · rcases hL with rfl | ⟨g, o, rfl, hcells⟩
      · simp at hlt
      · have hx := hcells k hlt
        have hup := all_take_succ (p := live c n) hlt hall
        have hno : live c n L[k] = false → nd c n L = 803 := fun h => by
          unfold nd
          rw [if_neg]
          intro hh
          have := List.all_eq_true.1 hh _ (List.getElem_mem hlt)
          rw [h] at this
          cases this
        generalize L[k] = h at *
        clear hcells
        have HU : Hid (live c n h = true → (L.take (k + 1)).all (live c n) = true) := hup
        have HN : Hid (live c n h = false → nd c n L = 803) := hno
        clear hup hno hall
        by_cases h0 : h < 0
        · have e : live c n h = false := by simp [live]; omega
          have d0 : decide (h < 0) = true := decide_eq_true h0
          go_wp2_with fail
          go_ret
          exact ⟨by rw [HN.out e]; rfl, rfl⟩
        · have d0 : decide (h < 0) = false := decide_eq_false h0
          obtain ⟨m, rfl⟩ : ∃ m : Nat, h = (m : Int) := ⟨h.toNat, by omega⟩
          by_cases h1 : m < n
          · have d1 : decide ((n : Int) ≤ (m : Int)) = false := decide_eq_false (by omega)
            have hq := HQ.out m h1
            have hlv : live c n (m : Int) = (c m).lv := by simp [live, h1]
            rw [hlv] at HU HN
            cases hv : (c m).lv with
            | true =>
              rw [hv] at HU hq
              have HU' : Hid ((L.take (k + 1)).all (live c n) = true) := HU.out rfl
              go_wp2_with fail
              go_roundw
              case rel => exact ⟨k + 1, by go_num, by omega, HU'.out, by trivial⟩
              case measure => simp only [intOf]; omega
            | false =>
              rw [hv] at HN hq
              have HN' : Hid (nd c n L = 803) := HN.out rfl
              go_wp2_with fail
              go_ret
              exact ⟨by rw [HN'.out]; rfl, rfl⟩
          · have d1 : decide ((n : Int) ≤ (m : Int)) = true := decide_eq_true (by omega)
            have e : live c n (m : Int) = false := by simp [live]; omega
            go_wp2_with fail
            go_ret
            exact ⟨by rw [HN.out e]; rfl, rfl⟩
    · obtain rfl : k = L.length := by omega
      rw [List.take_length] at hall
      have e : nd c n L = 0 := by unfold nd; rw [if_pos hall]
      have He : Hid (nd c n L = 0) := e
      clear e
      have hnlt : decide ((L.length : Int) < (L.length : Int)) = false := by simp
      go_wp2_with fail
      go_ret
      exact ⟨by rw [He.out]; rfl, rfl⟩
/-- Ahead of all, with one more handle unless it stands for the end. -/
def lst (L : List Int) (b : Option Nat) : List Int := match b with
  | none => L
  | some k => L ++ [(k : Int)]
end Go.Proofs.Ytnpamcgbnimdkaa.DNeed

import Derived.Deep.RegionWith
import Derived.Test.YtnoohlmlpijhaaaGreatDoorPZ09
import Derived.Test.YtnoohlmlpijhaaaGreatDoorPZ20
import Derived.Test.YtnoohlmlpijhaaaGreatDoorPZ27
namespace Go.Proofs.YtnoohlmlpijhaaaGreatDoor.QAl
open Go.RowKit Go.Proofs.YtnoohlmlpijhaaaGreatDoor.Base Go.Proofs.YtnoohlmlpijhaaaGreatDoor.UBase Go.Proofs.YtnoohlmlpijhaaaGreatDoor.UValid Go.Proofs.YtnoohlmlpijhaaaGreatDoor.EPure Go.Proofs.YtnoohlmlpijhaaaGreatDoor.ENd Go.Proofs.YtnoohlmlpijhaaaGreatDoor.PPl Go.Proofs.YtnoohlmlpijhaaaGreatDoor.PFit Go.Proofs.YtnoohlmlpijhaaaGreatDoor.QLv
open Go.Proofs.YtnoohlmlpijhaaaGreatDoor.XBase (four_box two_box frozen_box)
set_option linter.unusedVariables false
def rk (o : Int) : Int := if 1 ≤ o ∧ o ≤ 6 then 0 else if o = 7 ∨ o = 9 ∨ o = 10 ∨ o = 11 then 1 else if o = 31 then 3 else 2
set_option maxRecDepth 20000 in
set_option maxHeartbeats 1600000 in
theorem kids_c (o : Int) (w : World) : Calls Tryz.prog 77 #[.int .i64 o] w fun e w' => e = .returned (.int .i64 (rk o)) ∧ w' = w := by
  go_enter Tryz.func77, Tryz.ntmps77
  go_wp2_with fail
  all_goals
    go_ret
    refine ⟨ret_int ?_, rfl⟩
    unfold rk
    simp_all
    try omega
theorem rk_kd {o : Int} (h : 0 ≤ rl o) : rk o = kd o := by
  unfold rl at h
  unfold rk kd
  repeat' split at h
  all_goals (repeat' split) <;> omega
theorem rl_neg {o : Int} (h : rl o < 0) : kd o = -1 := by
  have hl : 12 ≤ o → o ≤ 30 → 0 ≤ lvl o := fun h1 h2 => by
    unfold lvl
    repeat' split
    all_goals omega
  unfold rl at h
  unfold kd
  repeat' split at h
  all_goals (repeat' split) <;> first | omega | (have := hl (by omega) (by omega); omega)
set_option maxRecDepth 20000 in
set_option maxHeartbeats 1600000 in
theorem written_c (s : ByteArray) (hs : s.size ≤ 140737488351232) (w : World) : Calls Tryz.prog 79 #[.string s] w fun e w' => e = .returned (.bool (wrt s)) ∧ w' = w := by
  obtain ⟨T, hT⟩ : ∃ T, wrt s = T := ⟨_, rfl⟩
  have HT : Hid (wrt s = T) := hT
  rw [hT]
  clear hT
  go_enter Tryz.func79, Tryz.ntmps79
  go_wp2_with fail
  go_loopw [3] (fun i wr => ∃ k : Nat, i = .int .i64 k ∧ k ≤ s.size ∧ wr = w ∧ ∀ j, j < k → 32 ≤ at' s j ∨ at' s j = 10) (fun i _ => s.size - (intOf i).toNat)
  case atStart => exact ⟨0, rfl, by omega, rfl, fun j h => by omega⟩
  case round =>
    obtain ⟨k, rfl, hk, rfl, hall⟩ := hrel
    have HA : Hid (∀ j, j < k → 32 ≤ at' s j ∨ at' s j = 10) := hall
    clear hall
    by_cases hlt : k < s.size
    · have d : decide ((k : Int) < (s.size : Int)) = true := by simp; omega
      have hat := at_get s k hlt
      have HAT : Hid (at' s k = (s[k]'hlt).toNat) := hat
      obtain ⟨c, hc⟩ : ∃ c, (s[k]'hlt).toNat = c := ⟨_, rfl⟩
      have HC : Hid (at' s k = c) := hat.trans hc
      clear hat
      by_cases h32 : c < 32
      · have d1 : decide ((c : Int) < 32) = true := by simp; omega
        by_cases h10 : c = 10
        · have d2 : ((c : Int) != 10) = false := by simp; omega
          have HA2 : Hid (∀ j, j < k + 1 → 32 ≤ at' s j ∨ at' s j = 10) := fun j hj => by
            by_cases e : j = k
            · rw [e, HC.out]; exact .inr h10
            · exact HA.out j (by omega)
          clear h10 h32
          go_wp2_with fail
          go_roundw
          case rel => exact ⟨k + 1, by go_num, by omega, by first | rfl | trivial, HA2.out⟩
          case measure => simp only [intOf]; omega
        · have d2 : ((c : Int) != 10) = true := by simp; omega
          have HF : Hid (false = T) := by
            show _ = _
            rw [← HT.out]
            unfold wrt
            symm
            apply decide_eq_false
            intro h
            have := h k hlt
            rw [HC.out] at this
            omega
          clear h10 h32
          go_wp2_with fail
          go_ret
          rw [← HF.out]
          exact ⟨rfl, rfl⟩
      · have d1 : decide ((c : Int) < 32) = false := by simp; omega
        have HA2 : Hid (∀ j, j < k + 1 → 32 ≤ at' s j ∨ at' s j = 10) := fun j hj => by
          by_cases e : j = k
          · rw [e, HC.out]; exact .inl (by omega)
          · exact HA.out j (by omega)
        clear h32
        go_wp2_with fail
        go_roundw
        case rel => exact ⟨k + 1, by go_num, by omega, by first | rfl | trivial, HA2.out⟩
        case measure => simp only [intOf]; omega
    · have d : decide ((k : Int) < (s.size : Int)) = false := by simp; omega
      have HF : Hid (true = T) := by
        show _ = _
        rw [← HT.out]
        unfold wrt
        symm
        exact decide_eq_true fun i hi => HA.out i (by omega)
      go_wp2_with fail
      go_ret
      rw [← HF.out]
      exact ⟨rfl, rfl⟩
theorem name_c (s : ByteArray) (hs : s.size ≤ 140737488351232) (w : World) : Calls Tryz.prog 81 #[.string s] w fun e w' => e = .returned (.bool (word s 95)) ∧ w' = w := by
  have c := UWord.ref_c s (by omega) 95 w
  generalize word s 95 = b at *
  go_enter Tryz.func81, Tryz.ntmps81
  go_wp2_with (first | (go_at_call 98; refine c.mono ?_; rintro e w' ⟨rfl, rfl⟩))
  go_ret
  exact ⟨rfl, rfl⟩
theorem good_c (s : ByteArray) (hs : s.size ≤ 140737488351232) (w : World) :
    Calls Tryz.prog 78 #[.string s] w fun r w' => r = .returned (.bool (tg s)) ∧ w' = w := by
  have c72 := rvalid_c s (by omega) w
  by_cases h : s.size ≤ 4096
  · have e : tg s = (verr s == 0) := by simp [tg, h]
    rw [e]
    have hv := PFit.verr_cases s
    generalize verr s = x at *
    generalize vat s = y at *
    have h' : decide ((4096 : Int) < (s.size : Int)) = false := decide_eq_false (by omega)
    clear e
    rcases hv with rfl | rfl
    · go_enter Tryz.func78, Tryz.ntmps78
      go_wp2_with (first | (go_at_call 97; refine c72.mono ?_; rintro e w' ⟨rfl, rfl⟩))
      go_ret
      exact ⟨rfl, rfl⟩
    · go_enter Tryz.func78, Tryz.ntmps78
      go_wp2_with (first | (go_at_call 97; refine c72.mono ?_; rintro e w' ⟨rfl, rfl⟩))
      go_ret
      exact ⟨rfl, rfl⟩
  · have e : tg s = false := by simp [tg, h]
    rw [e]
    have h' : decide ((4096 : Int) < (s.size : Int)) = true := decide_eq_true (by omega)
    clear c72 e
    go_enter Tryz.func78, Tryz.ntmps78
    go_wp2_with fail
    go_ret
    exact ⟨rfl, rfl⟩
/-- A name that is none of the three words. -/
def vr (s : ByteArray) : Bool := word s 95 && !(Lib.containsS wdl s)
theorem vr_eq (s : ByteArray) : vr s = (word s 95 && ((s.toList != [110, 117, 108, 108]) && ((s.toList != [102, 97, 108, 115, 101]) && (s.toList != [116, 114, 117, 101])))) := by
  unfold vr
  cases hw : word s 95 with
  | false => rfl
  | true =>
    rw [Bool.true_and, Bool.true_and]
    have hne : s.toList ≠ [] := by
      intro e
      have : s.size = 0 := by rw [ByteArray.toList_eq] at e; rw [← ByteArray.size_data, ← Array.length_toList, e]; rfl
      unfold word at hw
      simp [this] at hw
    have key : ∀ a : List UInt8, (s = ⟨a.toArray⟩) ↔ s.toList = a := by
      intro a
      rw [ByteArray.toList_eq]
      constructor
      · rintro rfl; simp
      · intro e
        cases s
        congr 1
        apply Array.toList_inj.1
        simpa using e
    rw [Bool.eq_iff_iff]
    simp only [Bool.not_eq_true', Bool.and_eq_true, bne_iff_ne, ne_eq]
    rw [← Bool.not_eq_true, Lib.containsS_iff]
    unfold wdl
    simp only [List.mem_cons, List.not_mem_nil, or_false]
    rw [show (⟨#[]⟩ : ByteArray) = ⟨([] : List UInt8).toArray⟩ from rfl, show (⟨#[110, 117, 108, 108]⟩ : ByteArray) = ⟨[110, 117, 108, 108].toArray⟩ from rfl, show (⟨#[102, 97, 108, 115, 101]⟩ : ByteArray) = ⟨[102, 97, 108, 115, 101].toArray⟩ from rfl, show (⟨#[116, 114, 117, 101]⟩ : ByteArray) = ⟨[116, 114, 117, 101].toArray⟩ from rfl]
    rw [key, key, key, key]
    constructor
    · intro h
      exact ⟨fun e => h (.inr (.inl e)), fun e => h (.inr (.inr (.inl e))), fun e => h (.inr (.inr (.inr e)))⟩
    · rintro ⟨h1, h2, h3⟩ (h | h | h | h)
      · exact hne h
      · exact h1 h
      · exact h2 h
      · exact h3 h
theorem variable_c (s : ByteArray) (hs : s.size ≤ 140737488351232) (w : World) : Calls Tryz.prog 80 #[.string s] w fun e w' => e = .returned (.bool (vr s)) ∧ w' = w := by
  have c := name_c s hs w
  rw [vr_eq]
  generalize word s 95 = b at *
  cases b with
  | false =>
    go_enter Tryz.func80, Tryz.ntmps80
    go_wp2_with (first | (go_at_call 81; refine c.mono ?_; rintro e w' ⟨rfl, rfl⟩))
    go_ret
    exact ⟨rfl, rfl⟩
  | true =>
    simp only [bne]
    cases h1 : (s.toList == [110, 117, 108, 108]) <;> cases h2 : (s.toList == [102, 97, 108, 115, 101]) <;> cases h3 : (s.toList == [116, 114, 117, 101])
    all_goals
      go_enter Tryz.func80, Tryz.ntmps80
      go_wp2_with (first | (go_at_call 81; refine c.mono ?_; rintro e w' ⟨rfl, rfl⟩))
      go_ret
      exact ⟨rfl, rfl⟩
end Go.Proofs.YtnoohlmlpijhaaaGreatDoor.QAl
namespace Go.Proofs.YtnoohlmlpijhaaaGreatDoor.QAn
open Go.RowKit Go.Proofs.YtnoohlmlpijhaaaGreatDoor.Base Go.Proofs.YtnoohlmlpijhaaaGreatDoor.UBase Go.Proofs.YtnoohlmlpijhaaaGreatDoor.EPure Go.Proofs.YtnoohlmlpijhaaaGreatDoor.ENd Go.Proofs.YtnoohlmlpijhaaaGreatDoor.PPl Go.Proofs.YtnoohlmlpijhaaaGreatDoor.PFit Go.Proofs.YtnoohlmlpijhaaaGreatDoor.QLv Go.Proofs.YtnoohlmlpijhaaaGreatDoor.QAl
open Go.Proofs.YtnoohlmlpijhaaaGreatDoor.XBase (four_box two_box frozen_box)
set_option linter.unusedVariables false
/-- May a node be, but for its kids? -/
def an (o i : Int) (t : ByteArray) (n : Nat) : Bool := decide ((n : Int) = kd o) && ft o i t
theorem an_neg {o i : Int} {t : ByteArray} {n : Nat} (h : rl o < 0) : an o i t n = false := by
  unfold an
  rw [rl_neg h, decide_eq_false (by omega)]
  rfl
theorem an_not {o i : Int} {t : ByteArray} {n : Nat} (h : (n : Int) ≠ kd o) : an o i t n = false := by
  unfold an
  rw [decide_eq_false h]
  rfl
theorem an_ok {o i : Int} {t : ByteArray} {n : Nat} (h : (n : Int) = kd o) : an o i t n = ft o i t := by
  unfold an
  rw [decide_eq_true h]
  rfl
set_option maxRecDepth 20000 in
set_option maxHeartbeats 3200000 in
theorem try_neg {o i : Int} {t : ByteArray} {a : Option Addr} {n c : Nat} (hrl : rl o < 0) (w : World) :
    Calls Tryz.prog 59 #[.agg #[.int .i64 o, .int .i64 i, .string t, .slice a n c]] w fun e w' => e = .returned (.bool false) ∧ Below w.heap.size w w' := by
  obtain ⟨W0, hW0⟩ : ∃ W0, w.alloc (.cells #[.int .i64 o, .int .i64 i, .string t, .slice a n c] 24) = W0 := ⟨_, rfl⟩
  have b0 : Below w.heap.size w W0 := by rw [← hW0]; exact (Below.refl _ w).alloc (Nat.le_refl _) _
  have s0 : W0.heap.size = w.heap.size + 1 := by rw [← hW0]; simp
  have hx : W0.heap[w.heap.size]? = some (.cells #[.int .i64 o, .int .i64 i, .string t, .slice a n c] 24 (0, 0)) := by rw [← hW0]; exact heap_alloc_new w _
  have HX : Hid (W0.heap[w.heap.size]? = some (.cells #[.int .i64 o, .int .i64 i, .string t, .slice a n c] 24 (0, 0)) ∧ W0.heap.size = w.heap.size + 1 ∧ Below w.heap.size w W0) := ⟨hx, s0, b0⟩
  obtain ⟨y0, y1, y2, y3⟩ := four_box hx
  have cL : ∀ W, Calls Tryz.prog 41 #[.int .i64 o] W fun e w' => e = .returned (.int .i64 (rl o)) ∧ Below W.heap.size W w' := fun W => level_c o W
  have cK : ∀ W, Calls Tryz.prog 77 #[.int .i64 o] W fun e w' => e = .returned (.int .i64 (rk o)) ∧ w' = W := kids_c o
  clear hx b0 s0
  obtain ⟨z, hz⟩ : ∃ z, rl o = z := ⟨_, rfl⟩
  rw [hz] at cL hrl
  obtain ⟨k, hk⟩ : ∃ k, rk o = k := ⟨_, rfl⟩
  rw [hk] at cK
  have HL : Hid (∀ W, Calls Tryz.prog 41 #[.int .i64 o] W fun e w' => e = .returned (.int .i64 z) ∧ Below W.heap.size W w') := cL
  have HK : Hid (∀ W, Calls Tryz.prog 77 #[.int .i64 o] W fun e w' => e = .returned (.int .i64 k) ∧ w' = W) := cK
  clear cL cK
  have d : decide (z < 0) = true := by simp; omega
  clear hz hk hrl
  go_enter Tryz.func59, Tryz.ntmps59
  go_wp2_with fail
  clear hW0
  refine wp_region_held_drew (S := fun w' => w'.cell? ⟨w.heap.size, 0, none⟩ = some (.int .i64 o) ∧ w'.cell? ⟨w.heap.size, 3, none⟩ = some (.slice a n c)) (by kernel_rfl) (by exact ⟨y0, y3⟩) (fun hHeld => ?_)
  refine wpAnyH_take (i := 0) (v := ?_) rfl (by kernel_rfl) (by kernel_rfl) (by kernel_rfl) (fun _ _ _ h => h) (Or.inl ⟨by rfl, ?_⟩) (by assumption) ?_
  rotate_left 1
  · intro w hSw; (try dsimp only at hSw); go_simp; first | done | with_reducible rfl
  try simp only [Act.put, List.getElem_toArray, List.getElem_cons_zero, List.setIfInBounds_toArray, List.set_cons_zero, List.set_cons_succ]
  refine wpAnyH_take (i := 1) (v := ?_) rfl (by kernel_rfl) (by kernel_rfl) (by kernel_rfl) (fun _ _ _ h => h) (Or.inl ⟨by rfl, ?_⟩) (by assumption) ?_
  rotate_left 1
  · intro w hSw; (try dsimp only at hSw); go_simp; first | done | with_reducible rfl
  try simp only [Act.put, List.getElem_toArray, List.getElem_cons_zero, List.getElem_cons_succ, List.setIfInBounds_toArray, List.set_cons_zero, List.set_cons_succ]
  refine wpAnyH_ready (rs := [2]) (by kernel_rfl) (by simp) ?_
  refine AllReadyH.cons rfl (fun K hK => ?_) AllReadyH.nil
  go_simp
  go_at_call 41
  refine (HL.out _).mono ?_
  rintro e W1 ⟨rfl, b1⟩
  have HB1 : Hid (Below W0.heap.size W0 W1) := (Below.refl W0.heap.size W0).drew.trans b1
  clear y0 y1 y2 y3 b1
  obtain ⟨y0, y1, y2, y3⟩ := four_box ((HB1.out.block w.heap.size (by have := HX.out.2.1; omega)).trans HX.out.1)
  refine hK.out _ _ (by exact ⟨y0, y3⟩) (fun hHeld => ?_)
  clear hK K
  try simp only [Act.put, List.getElem_toArray, List.getElem_cons_zero, List.getElem_cons_succ, List.setIfInBounds_toArray, List.set_cons_zero, List.set_cons_succ]
  refine wpAnyH_take (i := 3) (v := ?_) rfl (by kernel_rfl) (by kernel_rfl) (by kernel_rfl) (fun _ _ _ h => h) (Or.inl ⟨by rfl, ?_⟩) (by assumption) ?_
  rotate_left 1
  · intro w hSw; (try dsimp only at hSw); go_simp; first | done | with_reducible rfl
  try simp only [Act.put, List.getElem_toArray, List.getElem_cons_zero, List.getElem_cons_succ, List.setIfInBounds_toArray, List.set_cons_zero, List.set_cons_succ]
  refine wpAnyH_take (i := 4) (v := ?_) rfl (by kernel_rfl) (by kernel_rfl) (by kernel_rfl) (fun _ _ _ h => h) (Or.inl ⟨by rfl, ?_⟩) (by assumption) ?_
  rotate_left 1
  · intro w hSw; (try dsimp only at hSw); go_simp; first | done | with_reducible rfl
  try simp only [Act.put, List.getElem_toArray, List.getElem_cons_zero, List.getElem_cons_succ, List.setIfInBounds_toArray, List.set_cons_zero, List.set_cons_succ]
  refine wpAnyH_take (i := 5) rfl (by kernel_rfl) (by kernel_rfl) (by kernel_rfl) (fun _ _ _ h => h) (Or.inr ⟨by rfl, rfl⟩) (by assumption) ?_
  try simp only [Act.put, List.getElem_toArray, List.getElem_cons_zero, List.getElem_cons_succ, List.setIfInBounds_toArray, List.set_cons_zero, List.set_cons_succ]
  refine wpAnyH_take (i := 6) rfl (by kernel_rfl) (by kernel_rfl) (by kernel_rfl) (fun _ _ _ h => h) (Or.inr ⟨by rfl, rfl⟩) (by assumption) ?_
  try simp only [Act.put, List.getElem_toArray, List.getElem_cons_zero, List.getElem_cons_succ, List.setIfInBounds_toArray, List.set_cons_zero, List.set_cons_succ]
  refine wpAnyH_take (i := 7) rfl (by kernel_rfl) (by kernel_rfl) (by kernel_rfl) (fun _ _ _ h => h) (Or.inr ⟨by rfl, rfl⟩) (by assumption) ?_
  try simp only [Act.put, List.getElem_toArray, List.getElem_cons_zero, List.getElem_cons_succ, List.setIfInBounds_toArray, List.set_cons_zero, List.set_cons_succ]
  refine wpAnyH_take (i := 8) rfl (by kernel_rfl) (by kernel_rfl) (by kernel_rfl) (fun _ _ _ h => h) (Or.inr ⟨by rfl, rfl⟩) (by assumption) ?_
  try simp only [Act.put, List.getElem_toArray, List.getElem_cons_zero, List.getElem_cons_succ, List.setIfInBounds_toArray, List.set_cons_zero, List.set_cons_succ]
  refine wpAnyH_take (i := 9) rfl (by kernel_rfl) (by kernel_rfl) (by kernel_rfl) (fun _ _ _ h => h) (Or.inr ⟨by rfl, rfl⟩) (by assumption) ?_
  try simp only [Act.put, List.getElem_toArray, List.getElem_cons_zero, List.getElem_cons_succ, List.setIfInBounds_toArray, List.set_cons_zero, List.set_cons_succ]
  refine wpAnyH_take (i := 10) rfl (by kernel_rfl) (by kernel_rfl) (by kernel_rfl) (fun _ _ _ h => h) (Or.inr ⟨by rfl, rfl⟩) (by assumption) ?_
  try simp only [Act.put, List.getElem_toArray, List.getElem_cons_zero, List.getElem_cons_succ, List.setIfInBounds_toArray, List.set_cons_zero, List.set_cons_succ]
  refine wpAnyH_take (i := 11) rfl (by kernel_rfl) (by kernel_rfl) (by kernel_rfl) (fun _ _ _ h => h) (Or.inr ⟨by rfl, rfl⟩) (by assumption) ?_
  try simp only [Act.put, List.getElem_toArray, List.getElem_cons_zero, List.getElem_cons_succ, List.setIfInBounds_toArray, List.set_cons_zero, List.set_cons_succ]
  refine wpAnyH_take (i := 12) (v := ?_) rfl (by kernel_rfl) (by kernel_rfl) (by kernel_rfl) (fun _ _ _ h => h) (Or.inl ⟨by rfl, ?_⟩) (by assumption) ?_
  rotate_left 1
  · intro w hSw; (try dsimp only at hSw); go_simp; first | done | with_reducible rfl
  try simp only [Act.put, List.getElem_toArray, List.getElem_cons_zero, List.getElem_cons_succ, List.setIfInBounds_toArray, List.set_cons_zero, List.set_cons_succ]
  refine wpAnyH_done (by kernel_rfl) ?_ _
  clear hHeld
  go_wp2_with fail
  go_ret
  exact ⟨rfl, HX.out.2.2.trans (HB1.out.mono (by have := HX.out.2.1; omega))⟩
set_option maxRecDepth 20000 in
set_option maxHeartbeats 3200000 in
theorem try_not {o i : Int} {t : ByteArray} {a : Option Addr} {n c : Nat} (hrl : ¬ rl o < 0) (hne : (n : Int) ≠ rk o) (w : World) :
    Calls Tryz.prog 59 #[.agg #[.int .i64 o, .int .i64 i, .string t, .slice a n c]] w fun e w' => e = .returned (.bool false) ∧ Below w.heap.size w w' := by
  obtain ⟨W0, hW0⟩ : ∃ W0, w.alloc (.cells #[.int .i64 o, .int .i64 i, .string t, .slice a n c] 24) = W0 := ⟨_, rfl⟩
  have b0 : Below w.heap.size w W0 := by rw [← hW0]; exact (Below.refl _ w).alloc (Nat.le_refl _) _
  have s0 : W0.heap.size = w.heap.size + 1 := by rw [← hW0]; simp
  have hx : W0.heap[w.heap.size]? = some (.cells #[.int .i64 o, .int .i64 i, .string t, .slice a n c] 24 (0, 0)) := by rw [← hW0]; exact heap_alloc_new w _
  have HX : Hid (W0.heap[w.heap.size]? = some (.cells #[.int .i64 o, .int .i64 i, .string t, .slice a n c] 24 (0, 0)) ∧ W0.heap.size = w.heap.size + 1 ∧ Below w.heap.size w W0) := ⟨hx, s0, b0⟩
  obtain ⟨y0, y1, y2, y3⟩ := four_box hx
  have cL : ∀ W, Calls Tryz.prog 41 #[.int .i64 o] W fun e w' => e = .returned (.int .i64 (rl o)) ∧ Below W.heap.size W w' := fun W => level_c o W
  have cK : ∀ W, Calls Tryz.prog 77 #[.int .i64 o] W fun e w' => e = .returned (.int .i64 (rk o)) ∧ w' = W := kids_c o
  clear hx b0 s0
  obtain ⟨z, hz⟩ : ∃ z, rl o = z := ⟨_, rfl⟩
  rw [hz] at cL hrl
  obtain ⟨k, hk⟩ : ∃ k, rk o = k := ⟨_, rfl⟩
  rw [hk] at cK
  have HL : Hid (∀ W, Calls Tryz.prog 41 #[.int .i64 o] W fun e w' => e = .returned (.int .i64 z) ∧ Below W.heap.size W w') := cL
  have HK : Hid (∀ W, Calls Tryz.prog 77 #[.int .i64 o] W fun e w' => e = .returned (.int .i64 k) ∧ w' = W) := cK
  clear cL cK
  rw [hk] at hne
  have d : decide (z < 0) = false := by simp; omega
  have d2 : ((n : Int) != k) = true := by simp only [bne_iff_ne]; exact hne
  clear hz hk hrl hne
  go_enter Tryz.func59, Tryz.ntmps59
  go_wp2_with fail
  clear hW0
  refine wp_region_held_drew (S := fun w' => w'.cell? ⟨w.heap.size, 0, none⟩ = some (.int .i64 o) ∧ w'.cell? ⟨w.heap.size, 3, none⟩ = some (.slice a n c)) (by kernel_rfl) (by exact ⟨y0, y3⟩) (fun hHeld => ?_)
  refine wpAnyH_take (i := 0) (v := ?_) rfl (by kernel_rfl) (by kernel_rfl) (by kernel_rfl) (fun _ _ _ h => h) (Or.inl ⟨by rfl, ?_⟩) (by assumption) ?_
  rotate_left 1
  · intro w hSw; (try dsimp only at hSw); go_simp; first | done | with_reducible rfl
  try simp only [Act.put, List.getElem_toArray, List.getElem_cons_zero, List.setIfInBounds_toArray, List.set_cons_zero, List.set_cons_succ]
  refine wpAnyH_take (i := 1) (v := ?_) rfl (by kernel_rfl) (by kernel_rfl) (by kernel_rfl) (fun _ _ _ h => h) (Or.inl ⟨by rfl, ?_⟩) (by assumption) ?_
  rotate_left 1
  · intro w hSw; (try dsimp only at hSw); go_simp; first | done | with_reducible rfl
  try simp only [Act.put, List.getElem_toArray, List.getElem_cons_zero, List.getElem_cons_succ, List.setIfInBounds_toArray, List.set_cons_zero, List.set_cons_succ]
  refine wpAnyH_ready (rs := [2]) (by kernel_rfl) (by simp) ?_
  refine AllReadyH.cons rfl (fun K hK => ?_) AllReadyH.nil
  go_simp
  go_at_call 41
  refine (HL.out _).mono ?_
  rintro e W1 ⟨rfl, b1⟩
  have HB1 : Hid (Below W0.heap.size W0 W1) := (Below.refl W0.heap.size W0).drew.trans b1
  clear y0 y1 y2 y3 b1
  obtain ⟨y0, y1, y2, y3⟩ := four_box ((HB1.out.block w.heap.size (by have := HX.out.2.1; omega)).trans HX.out.1)
  refine hK.out _ _ (by exact ⟨y0, y3⟩) (fun hHeld => ?_)
  clear hK K
  try simp only [Act.put, List.getElem_toArray, List.getElem_cons_zero, List.getElem_cons_succ, List.setIfInBounds_toArray, List.set_cons_zero, List.set_cons_succ]
  refine wpAnyH_take (i := 3) (v := ?_) rfl (by kernel_rfl) (by kernel_rfl) (by kernel_rfl) (fun _ _ _ h => h) (Or.inl ⟨by rfl, ?_⟩) (by assumption) ?_
  rotate_left 1
  · intro w hSw; (try dsimp only at hSw); go_simp; first | done | with_reducible rfl
  try simp only [Act.put, List.getElem_toArray, List.getElem_cons_zero, List.getElem_cons_succ, List.setIfInBounds_toArray, List.set_cons_zero, List.set_cons_succ]
  refine wpAnyH_take (i := 4) (v := ?_) rfl (by kernel_rfl) (by kernel_rfl) (by kernel_rfl) (fun _ _ _ h => h) (Or.inl ⟨by rfl, ?_⟩) (by assumption) ?_
  rotate_left 1
  · intro w hSw; (try dsimp only at hSw); go_simp; first | done | with_reducible rfl
  try simp only [Act.put, List.getElem_toArray, List.getElem_cons_zero, List.getElem_cons_succ, List.setIfInBounds_toArray, List.set_cons_zero, List.set_cons_succ]
  refine wpAnyH_take (i := 5) (v := ?_) rfl (by kernel_rfl) (by kernel_rfl) (by kernel_rfl) (fun _ _ _ h => h) (Or.inl ⟨by rfl, ?_⟩) (by assumption) ?_
  rotate_left 1
  · intro w hSw; (try dsimp only at hSw); go_simp; first | done | with_reducible rfl
  try simp only [Act.put, List.getElem_toArray, List.getElem_cons_zero, List.getElem_cons_succ, List.setIfInBounds_toArray, List.set_cons_zero, List.set_cons_succ]
  refine wpAnyH_take (i := 6) (v := ?_) rfl (by kernel_rfl) (by kernel_rfl) (by kernel_rfl) (fun _ _ _ h => h) (Or.inl ⟨by rfl, ?_⟩) (by assumption) ?_
  rotate_left 1
  · intro w hSw; (try dsimp only at hSw); go_simp; first | done | with_reducible rfl
  try simp only [Act.put, List.getElem_toArray, List.getElem_cons_zero, List.getElem_cons_succ, List.setIfInBounds_toArray, List.set_cons_zero, List.set_cons_succ]
  refine wpAnyH_take (i := 7) (v := ?_) rfl (by kernel_rfl) (by kernel_rfl) (by kernel_rfl) (fun _ _ _ h => h) (Or.inl ⟨by rfl, ?_⟩) (by assumption) ?_
  rotate_left 1
  · intro w hSw; (try dsimp only at hSw); go_simp; first | done | with_reducible rfl
  try simp only [Act.put, List.getElem_toArray, List.getElem_cons_zero, List.getElem_cons_succ, List.setIfInBounds_toArray, List.set_cons_zero, List.set_cons_succ]
  refine wpAnyH_take (i := 8) (v := ?_) rfl (by kernel_rfl) (by kernel_rfl) (by kernel_rfl) (fun _ _ _ h => h) (Or.inl ⟨by rfl, ?_⟩) (by assumption) ?_
  rotate_left 1
  · intro w hSw; (try dsimp only at hSw); go_simp; first | done | with_reducible rfl
  try simp only [Act.put, List.getElem_toArray, List.getElem_cons_zero, List.getElem_cons_succ, List.setIfInBounds_toArray, List.set_cons_zero, List.set_cons_succ]
  refine wpAnyH_take (i := 9) (v := ?_) rfl (by kernel_rfl) (by kernel_rfl) (by kernel_rfl) (fun _ _ _ h => h) (Or.inl ⟨by rfl, ?_⟩) (by assumption) ?_
  rotate_left 1
  · intro w hSw; (try dsimp only at hSw); go_simp; first | done | with_reducible rfl
  try simp only [Act.put, List.getElem_toArray, List.getElem_cons_zero, List.getElem_cons_succ, List.setIfInBounds_toArray, List.set_cons_zero, List.set_cons_succ]
  refine wpAnyH_ready (rs := [10]) (by kernel_rfl) (by simp) ?_
  refine AllReadyH.cons rfl (fun K hK => ?_) AllReadyH.nil
  go_simp
  go_at_call 77
  refine (HK.out _).mono ?_
  rintro e w' ⟨rfl, hw'⟩
  subst w'
  refine hK.out _ _ (by exact ⟨y0, y3⟩) (fun hHeld => ?_)
  clear hK K
  try simp only [Act.put, List.getElem_toArray, List.getElem_cons_zero, List.getElem_cons_succ, List.setIfInBounds_toArray, List.set_cons_zero, List.set_cons_succ]
  refine wpAnyH_take (i := 11) (v := ?_) rfl (by kernel_rfl) (by kernel_rfl) (by kernel_rfl) (fun _ _ _ h => h) (Or.inl ⟨by rfl, ?_⟩) (by assumption) ?_
  rotate_left 1
  · intro w hSw; (try dsimp only at hSw); go_simp; first | done | with_reducible rfl
  try simp only [Act.put, List.getElem_toArray, List.getElem_cons_zero, List.getElem_cons_succ, List.setIfInBounds_toArray, List.set_cons_zero, List.set_cons_succ]
  refine wpAnyH_take (i := 12) (v := ?_) rfl (by kernel_rfl) (by kernel_rfl) (by kernel_rfl) (fun _ _ _ h => h) (Or.inl ⟨by rfl, ?_⟩) (by assumption) ?_
  rotate_left 1
  · intro w hSw; (try dsimp only at hSw); go_simp; first | done | with_reducible rfl
  try simp only [Act.put, List.getElem_toArray, List.getElem_cons_zero, List.getElem_cons_succ, List.setIfInBounds_toArray, List.set_cons_zero, List.set_cons_succ]
  refine wpAnyH_done (by kernel_rfl) ?_ _
  clear hHeld
  go_wp2_with fail
  go_ret
  exact ⟨rfl, HX.out.2.2.trans (HB1.out.mono (by have := HX.out.2.1; omega))⟩
end Go.Proofs.YtnoohlmlpijhaaaGreatDoor.QAn
namespace Go.Proofs.YtnoohlmlpijhaaaGreatDoor.QAo0
open Go.RowKit Go.Proofs.YtnoohlmlpijhaaaGreatDoor.Base Go.Proofs.YtnoohlmlpijhaaaGreatDoor.UBase Go.Proofs.YtnoohlmlpijhaaaGreatDoor.EPure Go.Proofs.YtnoohlmlpijhaaaGreatDoor.ENd Go.Proofs.YtnoohlmlpijhaaaGreatDoor.PPl Go.Proofs.YtnoohlmlpijhaaaGreatDoor.PFit Go.Proofs.YtnoohlmlpijhaaaGreatDoor.QLv Go.Proofs.YtnoohlmlpijhaaaGreatDoor.QAl Go.Proofs.YtnoohlmlpijhaaaGreatDoor.QAn
open Go.Proofs.YtnoohlmlpijhaaaGreatDoor.XBase (four_box two_box frozen_box)
set_option linter.unusedVariables false
set_option maxRecDepth 20000 in
set_option maxHeartbeats 3200000 in
theorem ok_int {o i : Int} {t : ByteArray} {a : Option Addr} {n c : Nat} (hrl : ¬ rl o < 0) (heq : (n : Int) = rk o) (ht : t.size ≤ 140737488351232) (ho : o = 4) (w : World) :
    Calls Tryz.prog 59 #[.agg #[.int .i64 o, .int .i64 i, .string t, .slice a n c]] w fun e w' => e = .returned (.bool (ft o i t)) ∧ Below w.heap.size w w' := by
  obtain ⟨W0, hW0⟩ : ∃ W0, w.alloc (.cells #[.int .i64 o, .int .i64 i, .string t, .slice a n c] 24) = W0 := ⟨_, rfl⟩
  have b0 : Below w.heap.size w W0 := by rw [← hW0]; exact (Below.refl _ w).alloc (Nat.le_refl _) _
  have s0 : W0.heap.size = w.heap.size + 1 := by rw [← hW0]; simp
  have hx : W0.heap[w.heap.size]? = some (.cells #[.int .i64 o, .int .i64 i, .string t, .slice a n c] 24 (0, 0)) := by rw [← hW0]; exact heap_alloc_new w _
  have HX : Hid (W0.heap[w.heap.size]? = some (.cells #[.int .i64 o, .int .i64 i, .string t, .slice a n c] 24 (0, 0)) ∧ W0.heap.size = w.heap.size + 1 ∧ Below w.heap.size w W0) := ⟨hx, s0, b0⟩
  obtain ⟨y0, y1, y2, y3⟩ := four_box hx
  have cL : ∀ W, Calls Tryz.prog 41 #[.int .i64 o] W fun e w' => e = .returned (.int .i64 (rl o)) ∧ Below W.heap.size W w' := fun W => level_c o W
  have cK : ∀ W, Calls Tryz.prog 77 #[.int .i64 o] W fun e w' => e = .returned (.int .i64 (rk o)) ∧ w' = W := kids_c o
  clear hx b0 s0
  obtain ⟨z, hz⟩ : ∃ z, rl o = z := ⟨_, rfl⟩
  rw [hz] at cL hrl
  obtain ⟨k, hk⟩ : ∃ k, rk o = k := ⟨_, rfl⟩
  rw [hk] at cK
  have HL : Hid (∀ W, Calls Tryz.prog 41 #[.int .i64 o] W fun e w' => e = .returned (.int .i64 z) ∧ Below W.heap.size W w') := cL
  have HK : Hid (∀ W, Calls Tryz.prog 77 #[.int .i64 o] W fun e w' => e = .returned (.int .i64 k) ∧ w' = W) := cK
  clear cL cK
  rw [hk] at heq
  have d : decide (z < 0) = false := by simp; omega
  have d2 : ((n : Int) != k) = false := by simp only [bne_eq_false_iff_eq]; exact heq
  clear hz hk hrl heq
  have e4 : (o == 4) = true := by simp [ho]
  have e5 : (o == 5) = false := by simp [ho]
  have e6 : (o == 6) = false := by simp [ho]
  have e7 : (o == 7) = false := by simp [ho]
  have e9 : (o == 9) = false := by simp [ho]
  have HO : Hid (o = 4) := ho
  clear ho
  go_enter Tryz.func59, Tryz.ntmps59
  go_wp2_with fail
  clear hW0
  refine wp_region_held_drew (S := fun w' => w'.cell? ⟨w.heap.size, 0, none⟩ = some (.int .i64 o) ∧ w'.cell? ⟨w.heap.size, 3, none⟩ = some (.slice a n c)) (by kernel_rfl) (by exact ⟨y0, y3⟩) (fun hHeld => ?_)
  refine wpAnyH_take (i := 0) (v := ?_) rfl (by kernel_rfl) (by kernel_rfl) (by kernel_rfl) (fun _ _ _ h => h) (Or.inl ⟨by rfl, ?_⟩) (by assumption) ?_
  rotate_left 1
  · intro w hSw; (try dsimp only at hSw); go_simp; first | done | with_reducible rfl
  try simp only [Act.put, List.getElem_toArray, List.getElem_cons_zero, List.setIfInBounds_toArray, List.set_cons_zero, List.set_cons_succ]
  refine wpAnyH_take (i := 1) (v := ?_) rfl (by kernel_rfl) (by kernel_rfl) (by kernel_rfl) (fun _ _ _ h => h) (Or.inl ⟨by rfl, ?_⟩) (by assumption) ?_
  rotate_left 1
  · intro w hSw; (try dsimp only at hSw); go_simp; first | done | with_reducible rfl
  try simp only [Act.put, List.getElem_toArray, List.getElem_cons_zero, List.getElem_cons_succ, List.setIfInBounds_toArray, List.set_cons_zero, List.set_cons_succ]
  refine wpAnyH_ready (rs := [2]) (by kernel_rfl) (by simp) ?_
  refine AllReadyH.cons rfl (fun K hK => ?_) AllReadyH.nil
  go_simp
  go_at_call 41
  refine (HL.out _).mono ?_
  rintro e W1 ⟨rfl, b1⟩
  have HB1 : Hid (Below W0.heap.size W0 W1) := (Below.refl W0.heap.size W0).drew.trans b1
  clear y0 y1 y2 y3 b1
  obtain ⟨y0, y1, y2, y3⟩ := four_box ((HB1.out.block w.heap.size (by have := HX.out.2.1; omega)).trans HX.out.1)
  refine hK.out _ _ (by exact ⟨y0, y3⟩) (fun hHeld => ?_)
  clear hK K
  try simp only [Act.put, List.getElem_toArray, List.getElem_cons_zero, List.getElem_cons_succ, List.setIfInBounds_toArray, List.set_cons_zero, List.set_cons_succ]
  refine wpAnyH_take (i := 3) (v := ?_) rfl (by kernel_rfl) (by kernel_rfl) (by kernel_rfl) (fun _ _ _ h => h) (Or.inl ⟨by rfl, ?_⟩) (by assumption) ?_
  rotate_left 1
  · intro w hSw; (try dsimp only at hSw); go_simp; first | done | with_reducible rfl
  try simp only [Act.put, List.getElem_toArray, List.getElem_cons_zero, List.getElem_cons_succ, List.setIfInBounds_toArray, List.set_cons_zero, List.set_cons_succ]
  refine wpAnyH_take (i := 4) (v := ?_) rfl (by kernel_rfl) (by kernel_rfl) (by kernel_rfl) (fun _ _ _ h => h) (Or.inl ⟨by rfl, ?_⟩) (by assumption) ?_
  rotate_left 1
  · intro w hSw; (try dsimp only at hSw); go_simp; first | done | with_reducible rfl
  try simp only [Act.put, List.getElem_toArray, List.getElem_cons_zero, List.getElem_cons_succ, List.setIfInBounds_toArray, List.set_cons_zero, List.set_cons_succ]
  refine wpAnyH_take (i := 5) (v := ?_) rfl (by kernel_rfl) (by kernel_rfl) (by kernel_rfl) (fun _ _ _ h => h) (Or.inl ⟨by rfl, ?_⟩) (by assumption) ?_
  rotate_left 1
  · intro w hSw; (try dsimp only at hSw); go_simp; first | done | with_reducible rfl
  try simp only [Act.put, List.getElem_toArray, List.getElem_cons_zero, List.getElem_cons_succ, List.setIfInBounds_toArray, List.set_cons_zero, List.set_cons_succ]
  refine wpAnyH_take (i := 6) (v := ?_) rfl (by kernel_rfl) (by kernel_rfl) (by kernel_rfl) (fun _ _ _ h => h) (Or.inl ⟨by rfl, ?_⟩) (by assumption) ?_
  rotate_left 1
  · intro w hSw; (try dsimp only at hSw); go_simp; first | done | with_reducible rfl
  try simp only [Act.put, List.getElem_toArray, List.getElem_cons_zero, List.getElem_cons_succ, List.setIfInBounds_toArray, List.set_cons_zero, List.set_cons_succ]
  refine wpAnyH_take (i := 7) (v := ?_) rfl (by kernel_rfl) (by kernel_rfl) (by kernel_rfl) (fun _ _ _ h => h) (Or.inl ⟨by rfl, ?_⟩) (by assumption) ?_
  rotate_left 1
  · intro w hSw; (try dsimp only at hSw); go_simp; first | done | with_reducible rfl
  try simp only [Act.put, List.getElem_toArray, List.getElem_cons_zero, List.getElem_cons_succ, List.setIfInBounds_toArray, List.set_cons_zero, List.set_cons_succ]
  refine wpAnyH_take (i := 8) (v := ?_) rfl (by kernel_rfl) (by kernel_rfl) (by kernel_rfl) (fun _ _ _ h => h) (Or.inl ⟨by rfl, ?_⟩) (by assumption) ?_
  rotate_left 1
  · intro w hSw; (try dsimp only at hSw); go_simp; first | done | with_reducible rfl
  try simp only [Act.put, List.getElem_toArray, List.getElem_cons_zero, List.getElem_cons_succ, List.setIfInBounds_toArray, List.set_cons_zero, List.set_cons_succ]
  refine wpAnyH_take (i := 9) (v := ?_) rfl (by kernel_rfl) (by kernel_rfl) (by kernel_rfl) (fun _ _ _ h => h) (Or.inl ⟨by rfl, ?_⟩) (by assumption) ?_
  rotate_left 1
  · intro w hSw; (try dsimp only at hSw); go_simp; first | done | with_reducible rfl
  try simp only [Act.put, List.getElem_toArray, List.getElem_cons_zero, List.getElem_cons_succ, List.setIfInBounds_toArray, List.set_cons_zero, List.set_cons_succ]
  refine wpAnyH_ready (rs := [10]) (by kernel_rfl) (by simp) ?_
  refine AllReadyH.cons rfl (fun K hK => ?_) AllReadyH.nil
  go_simp
  go_at_call 77
  refine (HK.out _).mono ?_
  rintro e w' ⟨rfl, hw'⟩
  subst w'
  refine hK.out _ _ (by exact ⟨y0, y3⟩) (fun hHeld => ?_)
  clear hK K
  try simp only [Act.put, List.getElem_toArray, List.getElem_cons_zero, List.getElem_cons_succ, List.setIfInBounds_toArray, List.set_cons_zero, List.set_cons_succ]
  refine wpAnyH_take (i := 11) (v := ?_) rfl (by kernel_rfl) (by kernel_rfl) (by kernel_rfl) (fun _ _ _ h => h) (Or.inl ⟨by rfl, ?_⟩) (by assumption) ?_
  rotate_left 1
  · intro w hSw; (try dsimp only at hSw); go_simp; first | done | with_reducible rfl
  try simp only [Act.put, List.getElem_toArray, List.getElem_cons_zero, List.getElem_cons_succ, List.setIfInBounds_toArray, List.set_cons_zero, List.set_cons_succ]
  refine wpAnyH_take (i := 12) (v := ?_) rfl (by kernel_rfl) (by kernel_rfl) (by kernel_rfl) (fun _ _ _ h => h) (Or.inl ⟨by rfl, ?_⟩) (by assumption) ?_
  rotate_left 1
  · intro w hSw; (try dsimp only at hSw); go_simp; first | done | with_reducible rfl
  try simp only [Act.put, List.getElem_toArray, List.getElem_cons_zero, List.getElem_cons_succ, List.setIfInBounds_toArray, List.set_cons_zero, List.set_cons_succ]
  refine wpAnyH_done (by kernel_rfl) ?_ _
  clear hHeld
  go_wp2_with (fail)
  all_goals
    go_ret
    refine ⟨SFit.ret_bool ?_, HX.out.2.2.trans (HB1.out.mono (by have := HX.out.2.1; omega))⟩
    (try have ho := HO.out)
    (try subst ho)
    have hne := SFit.ne t
    simp_all [ft]
    try (intros; omega)
end Go.Proofs.YtnoohlmlpijhaaaGreatDoor.QAo0
namespace Go.Proofs.YtnoohlmlpijhaaaGreatDoor.QAo1
open Go.RowKit Go.Proofs.YtnoohlmlpijhaaaGreatDoor.Base Go.Proofs.YtnoohlmlpijhaaaGreatDoor.UBase Go.Proofs.YtnoohlmlpijhaaaGreatDoor.EPure Go.Proofs.YtnoohlmlpijhaaaGreatDoor.ENd Go.Proofs.YtnoohlmlpijhaaaGreatDoor.PPl Go.Proofs.YtnoohlmlpijhaaaGreatDoor.PFit Go.Proofs.YtnoohlmlpijhaaaGreatDoor.QLv Go.Proofs.YtnoohlmlpijhaaaGreatDoor.QAl Go.Proofs.YtnoohlmlpijhaaaGreatDoor.QAn
open Go.Proofs.YtnoohlmlpijhaaaGreatDoor.XBase (four_box two_box frozen_box)
set_option linter.unusedVariables false
set_option maxRecDepth 20000 in
set_option maxHeartbeats 3200000 in
theorem ok_text {o i : Int} {t : ByteArray} {a : Option Addr} {n c : Nat} (hrl : ¬ rl o < 0) (heq : (n : Int) = rk o) (ht : t.size ≤ 140737488351232) (ho : o = 5) (w : World) :
    Calls Tryz.prog 59 #[.agg #[.int .i64 o, .int .i64 i, .string t, .slice a n c]] w fun e w' => e = .returned (.bool (ft o i t)) ∧ Below w.heap.size w w' := by
  obtain ⟨W0, hW0⟩ : ∃ W0, w.alloc (.cells #[.int .i64 o, .int .i64 i, .string t, .slice a n c] 24) = W0 := ⟨_, rfl⟩
  have b0 : Below w.heap.size w W0 := by rw [← hW0]; exact (Below.refl _ w).alloc (Nat.le_refl _) _
  have s0 : W0.heap.size = w.heap.size + 1 := by rw [← hW0]; simp
  have hx : W0.heap[w.heap.size]? = some (.cells #[.int .i64 o, .int .i64 i, .string t, .slice a n c] 24 (0, 0)) := by rw [← hW0]; exact heap_alloc_new w _
  have HX : Hid (W0.heap[w.heap.size]? = some (.cells #[.int .i64 o, .int .i64 i, .string t, .slice a n c] 24 (0, 0)) ∧ W0.heap.size = w.heap.size + 1 ∧ Below w.heap.size w W0) := ⟨hx, s0, b0⟩
  obtain ⟨y0, y1, y2, y3⟩ := four_box hx
  have cL : ∀ W, Calls Tryz.prog 41 #[.int .i64 o] W fun e w' => e = .returned (.int .i64 (rl o)) ∧ Below W.heap.size W w' := fun W => level_c o W
  have cK : ∀ W, Calls Tryz.prog 77 #[.int .i64 o] W fun e w' => e = .returned (.int .i64 (rk o)) ∧ w' = W := kids_c o
  clear hx b0 s0
  obtain ⟨z, hz⟩ : ∃ z, rl o = z := ⟨_, rfl⟩
  rw [hz] at cL hrl
  obtain ⟨k, hk⟩ : ∃ k, rk o = k := ⟨_, rfl⟩
  rw [hk] at cK
  have HL : Hid (∀ W, Calls Tryz.prog 41 #[.int .i64 o] W fun e w' => e = .returned (.int .i64 z) ∧ Below W.heap.size W w') := cL
  have HK : Hid (∀ W, Calls Tryz.prog 77 #[.int .i64 o] W fun e w' => e = .returned (.int .i64 k) ∧ w' = W) := cK
  clear cL cK
  rw [hk] at heq
  have d : decide (z < 0) = false := by simp; omega
  have d2 : ((n : Int) != k) = false := by simp only [bne_eq_false_iff_eq]; exact heq
  clear hz hk hrl heq
  have e4 : (o == 4) = false := by simp [ho]
  have e5 : (o == 5) = true := by simp [ho]
  have e6 : (o == 6) = false := by simp [ho]
  have e7 : (o == 7) = false := by simp [ho]
  have e9 : (o == 9) = false := by simp [ho]
  have HO : Hid (o = 5) := ho
  clear ho
  have HG : Hid (∀ W, Calls Tryz.prog 78 #[.string t] W fun e w' => e = .returned (.bool (tg t)) ∧ w' = W) := good_c t ht
  have HW : Hid (∀ W, Calls Tryz.prog 79 #[.string t] W fun e w' => e = .returned (.bool (wrt t)) ∧ w' = W) := written_c t ht
  go_enter Tryz.func59, Tryz.ntmps59
  go_wp2_with fail
  clear hW0
  refine wp_region_held_drew (S := fun w' => w'.cell? ⟨w.heap.size, 0, none⟩ = some (.int .i64 o) ∧ w'.cell? ⟨w.heap.size, 3, none⟩ = some (.slice a n c)) (by kernel_rfl) (by exact ⟨y0, y3⟩) (fun hHeld => ?_)
  refine wpAnyH_take (i := 0) (v := ?_) rfl (by kernel_rfl) (by kernel_rfl) (by kernel_rfl) (fun _ _ _ h => h) (Or.inl ⟨by rfl, ?_⟩) (by assumption) ?_
  rotate_left 1
  · intro w hSw; (try dsimp only at hSw); go_simp; first | done | with_reducible rfl
  try simp only [Act.put, List.getElem_toArray, List.getElem_cons_zero, List.setIfInBounds_toArray, List.set_cons_zero, List.set_cons_succ]
  refine wpAnyH_take (i := 1) (v := ?_) rfl (by kernel_rfl) (by kernel_rfl) (by kernel_rfl) (fun _ _ _ h => h) (Or.inl ⟨by rfl, ?_⟩) (by assumption) ?_
  rotate_left 1
  · intro w hSw; (try dsimp only at hSw); go_simp; first | done | with_reducible rfl
  try simp only [Act.put, List.getElem_toArray, List.getElem_cons_zero, List.getElem_cons_succ, List.setIfInBounds_toArray, List.set_cons_zero, List.set_cons_succ]
  refine wpAnyH_ready (rs := [2]) (by kernel_rfl) (by simp) ?_
  refine AllReadyH.cons rfl (fun K hK => ?_) AllReadyH.nil
  go_simp
  go_at_call 41
  refine (HL.out _).mono ?_
  rintro e W1 ⟨rfl, b1⟩
  have HB1 : Hid (Below W0.heap.size W0 W1) := (Below.refl W0.heap.size W0).drew.trans b1
  clear y0 y1 y2 y3 b1
  obtain ⟨y0, y1, y2, y3⟩ := four_box ((HB1.out.block w.heap.size (by have := HX.out.2.1; omega)).trans HX.out.1)
  refine hK.out _ _ (by exact ⟨y0, y3⟩) (fun hHeld => ?_)
  clear hK K
  try simp only [Act.put, List.getElem_toArray, List.getElem_cons_zero, List.getElem_cons_succ, List.setIfInBounds_toArray, List.set_cons_zero, List.set_cons_succ]
  refine wpAnyH_take (i := 3) (v := ?_) rfl (by kernel_rfl) (by kernel_rfl) (by kernel_rfl) (fun _ _ _ h => h) (Or.inl ⟨by rfl, ?_⟩) (by assumption) ?_
  rotate_left 1
  · intro w hSw; (try dsimp only at hSw); go_simp; first | done | with_reducible rfl
  try simp only [Act.put, List.getElem_toArray, List.getElem_cons_zero, List.getElem_cons_succ, List.setIfInBounds_toArray, List.set_cons_zero, List.set_cons_succ]
  refine wpAnyH_take (i := 4) (v := ?_) rfl (by kernel_rfl) (by kernel_rfl) (by kernel_rfl) (fun _ _ _ h => h) (Or.inl ⟨by rfl, ?_⟩) (by assumption) ?_
  rotate_left 1
  · intro w hSw; (try dsimp only at hSw); go_simp; first | done | with_reducible rfl
  try simp only [Act.put, List.getElem_toArray, List.getElem_cons_zero, List.getElem_cons_succ, List.setIfInBounds_toArray, List.set_cons_zero, List.set_cons_succ]
  refine wpAnyH_take (i := 5) (v := ?_) rfl (by kernel_rfl) (by kernel_rfl) (by kernel_rfl) (fun _ _ _ h => h) (Or.inl ⟨by rfl, ?_⟩) (by assumption) ?_
  rotate_left 1
  · intro w hSw; (try dsimp only at hSw); go_simp; first | done | with_reducible rfl
  try simp only [Act.put, List.getElem_toArray, List.getElem_cons_zero, List.getElem_cons_succ, List.setIfInBounds_toArray, List.set_cons_zero, List.set_cons_succ]
  refine wpAnyH_take (i := 6) (v := ?_) rfl (by kernel_rfl) (by kernel_rfl) (by kernel_rfl) (fun _ _ _ h => h) (Or.inl ⟨by rfl, ?_⟩) (by assumption) ?_
  rotate_left 1
  · intro w hSw; (try dsimp only at hSw); go_simp; first | done | with_reducible rfl
  try simp only [Act.put, List.getElem_toArray, List.getElem_cons_zero, List.getElem_cons_succ, List.setIfInBounds_toArray, List.set_cons_zero, List.set_cons_succ]
  refine wpAnyH_take (i := 7) (v := ?_) rfl (by kernel_rfl) (by kernel_rfl) (by kernel_rfl) (fun _ _ _ h => h) (Or.inl ⟨by rfl, ?_⟩) (by assumption) ?_
  rotate_left 1
  · intro w hSw; (try dsimp only at hSw); go_simp; first | done | with_reducible rfl
  try simp only [Act.put, List.getElem_toArray, List.getElem_cons_zero, List.getElem_cons_succ, List.setIfInBounds_toArray, List.set_cons_zero, List.set_cons_succ]
  refine wpAnyH_take (i := 8) (v := ?_) rfl (by kernel_rfl) (by kernel_rfl) (by kernel_rfl) (fun _ _ _ h => h) (Or.inl ⟨by rfl, ?_⟩) (by assumption) ?_
  rotate_left 1
  · intro w hSw; (try dsimp only at hSw); go_simp; first | done | with_reducible rfl
  try simp only [Act.put, List.getElem_toArray, List.getElem_cons_zero, List.getElem_cons_succ, List.setIfInBounds_toArray, List.set_cons_zero, List.set_cons_succ]
  refine wpAnyH_take (i := 9) (v := ?_) rfl (by kernel_rfl) (by kernel_rfl) (by kernel_rfl) (fun _ _ _ h => h) (Or.inl ⟨by rfl, ?_⟩) (by assumption) ?_
  rotate_left 1
  · intro w hSw; (try dsimp only at hSw); go_simp; first | done | with_reducible rfl
  try simp only [Act.put, List.getElem_toArray, List.getElem_cons_zero, List.getElem_cons_succ, List.setIfInBounds_toArray, List.set_cons_zero, List.set_cons_succ]
  refine wpAnyH_ready (rs := [10]) (by kernel_rfl) (by simp) ?_
  refine AllReadyH.cons rfl (fun K hK => ?_) AllReadyH.nil
  go_simp
  go_at_call 77
  refine (HK.out _).mono ?_
  rintro e w' ⟨rfl, hw'⟩
  subst w'
  refine hK.out _ _ (by exact ⟨y0, y3⟩) (fun hHeld => ?_)
  clear hK K
  try simp only [Act.put, List.getElem_toArray, List.getElem_cons_zero, List.getElem_cons_succ, List.setIfInBounds_toArray, List.set_cons_zero, List.set_cons_succ]
  refine wpAnyH_take (i := 11) (v := ?_) rfl (by kernel_rfl) (by kernel_rfl) (by kernel_rfl) (fun _ _ _ h => h) (Or.inl ⟨by rfl, ?_⟩) (by assumption) ?_
  rotate_left 1
  · intro w hSw; (try dsimp only at hSw); go_simp; first | done | with_reducible rfl
  try simp only [Act.put, List.getElem_toArray, List.getElem_cons_zero, List.getElem_cons_succ, List.setIfInBounds_toArray, List.set_cons_zero, List.set_cons_succ]
  refine wpAnyH_take (i := 12) (v := ?_) rfl (by kernel_rfl) (by kernel_rfl) (by kernel_rfl) (fun _ _ _ h => h) (Or.inl ⟨by rfl, ?_⟩) (by assumption) ?_
  rotate_left 1
  · intro w hSw; (try dsimp only at hSw); go_simp; first | done | with_reducible rfl
  try simp only [Act.put, List.getElem_toArray, List.getElem_cons_zero, List.getElem_cons_succ, List.setIfInBounds_toArray, List.set_cons_zero, List.set_cons_succ]
  refine wpAnyH_done (by kernel_rfl) ?_ _
  clear hHeld
  go_wp2_with (first | (go_at_call 78; refine (HG.out _).mono ?_; rintro e w' ⟨rfl, hw'⟩; subst w') | (go_at_call 79; refine (HW.out _).mono ?_; rintro e w' ⟨rfl, hw'⟩; subst w'))
  all_goals
    go_ret
    refine ⟨SFit.ret_bool ?_, HX.out.2.2.trans (HB1.out.mono (by have := HX.out.2.1; omega))⟩
    (try have ho := HO.out)
    (try subst ho)
    simp_all [ft, tx]
end Go.Proofs.YtnoohlmlpijhaaaGreatDoor.QAo1

import Derived.Lib.SlBytesConst
import Derived.Test.YthkpbhgbmagaeaaGreatDoorP09
namespace Go.Proofs.YthkpbhgbmagaeaaGreatDoor.Chr
open Go.RowKit Go.Proofs.YthkpbhgbmagaeaaGreatDoor.Base Go.Proofs.YthkpbhgbmagaeaaGreatDoor.UBase Go.Proofs.YthkpbhgbmagaeaaGreatDoor.Spec Go.Proofs.YthkpbhgbmagaeaaGreatDoor.Rdr Go.Proofs.YthkpbhgbmagaeaaGreatDoor.Take Go.Proofs.YthkpbhgbmagaeaaGreatDoor.Skip
set_option linter.unusedVariables false
/-- The bytes of s from p on lie in the slice v. -/
def Sub (w : World) (v : Value) (s : ByteArray) (p : Nat) : Prop :=
  ∃ a cap, v = .slice a (s.size - p) cap ∧ s.size - p ≤ cap ∧ cap ≤ maxLen ∧ (s.size ≤ p ∨ ∃ g o, a = some ⟨g, o, none⟩ ∧ ∀ j, p + j < s.size → w.cell? ⟨g, o + j, none⟩ = some (.int .u8 (at' s (p + j) : Nat)))
theorem Sub.keep {w w' : World} {v : Value} {s : ByteArray} {p : Nat} (h : Sub w v s p) (hk : ∀ g o x, w.cell? ⟨g, o, none⟩ = some x → w'.cell? ⟨g, o, none⟩ = some x) : Sub w' v s p := by
  obtain ⟨a, cap, h1, h2, h3, h4⟩ := h
  refine ⟨a, cap, h1, h2, h3, ?_⟩
  rcases h4 with h4 | ⟨g, o, ha, hc⟩
  · exact .inl h4
  · exact .inr ⟨g, o, ha, fun j hj => hk _ _ _ (hc j hj)⟩
def hexs : ByteArray := ⟨#[48, 49, 50, 51, 52, 53, 54, 55, 56, 57, 97, 98, 99, 100, 101, 102]⟩
def hdv (c : Nat) : Int := Lib.indexByte hexs.data.toList ((if 65 ≤ c ∧ c ≤ 70 then c + 32 else c : Nat) : Int).toNat.toUInt8
theorem hdv_eq (c : Nat) (h : c < 256) : hdv c = if hxd c = true then (hxv c : Int) else -1 := by
  have : ∀ c : Fin 256, hdv c.1 = if hxd c.1 = true then (hxv c.1 : Int) else -1 := by decide +kernel
  exact this ⟨c, h⟩
theorem hdig_c (c : Nat) (hc : c < 256) (w : World) :
    Calls Tryz.prog 95 #[.int .u8 c] w fun e w' => e = .returned (.int .i64 (if hxd c = true then (hxv c : Int) else -1)) ∧ w' = w := by
  rw [← hdv_eq c hc]
  by_cases h1 : 65 ≤ c
  · have h1' : decide ((65 : Int) ≤ (c : Int)) = true := by simp; omega
    by_cases h2 : c ≤ 70
    · have h2' : decide ((c : Int) ≤ 70) = true := by simp; omega
      have c94 := Tryz.strings_IndexByte hexs ((c : Int) + 32) w
      have e : hdv c = Lib.indexByte hexs.data.toList ((c : Int) + 32).toNat.toUInt8 := by unfold hdv; rw [if_pos ⟨h1, h2⟩]; rfl
      rw [e]
      unfold hexs at c94 ⊢
      clear e
      go_enter Tryz.func95, Tryz.ntmps95
      go_wp2_with (go_at_call 68; refine c94.mono ?_; rintro e w' ⟨rfl, rfl⟩)
      go_ret
      exact ⟨rfl, rfl⟩
    · have h2' : decide ((c : Int) ≤ 70) = false := by simp; omega
      have c94 := Tryz.strings_IndexByte hexs (c : Int) w
      have e : hdv c = Lib.indexByte hexs.data.toList (c : Int).toNat.toUInt8 := by unfold hdv; rw [if_neg (by omega)]
      rw [e]
      unfold hexs at c94 ⊢
      clear e
      go_enter Tryz.func95, Tryz.ntmps95
      go_wp2_with (go_at_call 68; refine c94.mono ?_; rintro e w' ⟨rfl, rfl⟩)
      go_ret
      exact ⟨rfl, rfl⟩
  · have h1' : decide ((65 : Int) ≤ (c : Int)) = false := by simp; omega
    have c94 := Tryz.strings_IndexByte hexs (c : Int) w
    have e : hdv c = Lib.indexByte hexs.data.toList (c : Int).toNat.toUInt8 := by unfold hdv; rw [if_neg (by omega)]
    rw [e]
    unfold hexs at c94 ⊢
    clear e
    go_enter Tryz.func95, Tryz.ntmps95
    go_wp2_with (go_at_call 68; refine c94.mono ?_; rintro e w' ⟨rfl, rfl⟩)
    go_ret
    exact ⟨rfl, rfl⟩
/-- What the first n hex digits make. -/
def hvn (s : ByteArray) (p : Nat) : Nat → Nat
  | 0 => 0
  | n + 1 => 16 * hvn s p n + hxv (at' s (p + n))
theorem hvn_four (s : ByteArray) (p : Nat) : hvn s p 4 = hvl s p := by simp only [hvn, hvl, Nat.add_zero]; omega
theorem hxv_lt {c : Nat} (h : hxd c = true) : hxv c < 16 := by
  unfold hxd dig at h
  unfold hxv
  simp at h
  repeat' split
  all_goals omega
theorem hvn_lt {s : ByteArray} {p : Nat} : ∀ n, (∀ j, j < n → hxd (at' s (p + j)) = true) → hvn s p n < 16 ^ n
  | 0, _ => by simp [hvn]
  | n + 1, h => by
    have h1 := hvn_lt n fun j hj => h j (by omega)
    have h2 := hxv_lt (h n (by omega))
    rw [hvn, Nat.pow_succ]
    omega
/-- How many hex digits stand there, four at the most. -/
theorem hcn_of {s : ByteArray} : ∀ (m p n : Nat), n ≤ m → (∀ j, j < n → hxd (at' s (p + j)) = true) → (n < m → hxd (at' s (p + n)) = false) → hcn s m p = n
  | 0, p, n, h, _, _ => by have : n = 0 := by omega
                           subst this; rfl
  | m + 1, p, 0, h, h1, h2 => by rw [hcn, if_neg (by have := h2 (by omega); simp only [Nat.add_zero] at this; rw [this]; simp)]
  | m + 1, p, n + 1, h, h1, h2 => by
    have h0 := h1 0 (by omega)
    rw [Nat.add_zero] at h0
    rw [hcn, if_pos h0, hcn_of m (p + 1) n (by omega) (fun j hj => by have := h1 (j + 1) (by omega); rw [← this]; congr 2; omega) (fun hn => by have := h2 (by omega); rw [← this]; congr 2; omega)]
theorem hcn_le (s : ByteArray) : ∀ n p, hcn s n p ≤ n
  | 0, _ => by simp [hcn]
  | n + 1, p => by
    rw [hcn]
    have := hcn_le s n (p + 1)
    split <;> omega
theorem hcn_all {s : ByteArray} : ∀ {n p : Nat}, hcn s n p = n → ∀ j, j < n → hxd (at' s (p + j)) = true
  | 0, _, _, j, hj => by omega
  | n + 1, p, h, j, hj => by
    rw [hcn] at h
    split at h
    · next hx =>
      cases j with
      | zero => exact hx
      | succ j =>
        rw [show p + (j + 1) = p + 1 + j by omega]
        exact hcn_all (s := s) (n := n) (p := p + 1) (by omega) j (by omega)
    · omega
theorem hcn_pre {s : ByteArray} : ∀ (n p j : Nat), j < hcn s n p → hxd (at' s (p + j)) = true
  | 0, _, j, hj => by simp [hcn] at hj
  | n + 1, p, j, hj => by
    rw [hcn] at hj
    split at hj
    · next hx =>
      cases j with
      | zero => exact hx
      | succ j =>
        rw [show p + (j + 1) = p + 1 + j by omega]
        exact hcn_pre n (p + 1) j (by omega)
    · omega
theorem hcn_in (s : ByteArray) (n p : Nat) (hp : p ≤ s.size) : p + hcn s n p ≤ s.size := by
  by_cases h : hcn s n p = 0
  · omega
  · have := hcn_pre (s := s) n p (hcn s n p - 1) (by omega)
    have := at_in (s := s) (i := p + (hcn s n p - 1)) (fun e => by rw [e] at this; exact absurd this (by decide))
    omega
set_option maxRecDepth 20000 in
theorem hexu_c {w : World} {v : Value} {s : ByteArray} {p : Nat} (h : Sub w v s p) (hs : s.size ≤ 65536) :
    Calls Tryz.prog 86 #[v] w fun e w' => e = .returned (.tuple #[.int .i32 (hvn s p (hcn s 4 p) : Nat), .int .i64 (hcn s 4 p : Nat)]) ∧ w = w' := by
  obtain ⟨a, cap, rfl, h2, h3, h4⟩ := h
  obtain ⟨L, hL⟩ : ∃ L, s.size - p = L := ⟨_, rfl⟩
  rw [hL] at h2 ⊢
  have HL : Hid (s.size - p = L) := hL
  have hL2 : L ≤ 65536 := by omega
  have H4 : Hid (s.size ≤ p ∨ ∃ g o, a = some ⟨g, o, none⟩ ∧ ∀ j, p + j < s.size → w.cell? ⟨g, o + j, none⟩ = some (.int .u8 (at' s (p + j) : Nat))) := h4
  clear hL h4
  go_enter Tryz.func86, Tryz.ntmps86
  go_wp2_with fail
  go_loopw [4, 5] (fun c z wr => ∃ q : Nat, q ≤ 4 ∧ w = wr ∧ c = .int .i32 (hvn s p q : Nat) ∧ z = .int .i64 q ∧ ∀ j, j < q → hxd (at' s (p + j)) = true) (fun c z wr => 4 - (intOf z).toNat)
  case atStart => exact ⟨0, by omega, rfl, rfl, rfl, fun j hj => by omega⟩
  case round =>
    obtain ⟨q, hq, rfl, rfl, rfl, hall⟩ := hrel
    have HA : Hid (∀ j, j < q → hxd (at' s (p + j)) = true) := hall
    have hX : hvn s p q < 16 ^ q := hvn_lt q hall
    by_cases h4 : q < 4
    · have d1 : decide ((q : Int) < 4) = true := by simp; omega
      have hX2 : hvn s p q < 4096 := Nat.lt_of_lt_of_le hX (Nat.pow_le_pow_right (by omega) (show q ≤ 3 by omega))
      by_cases hlt : q < L
      · have d2 : decide ((q : Int) < (L : Int)) = true := by simp; omega
        have hps : p + q < s.size := by have := HL.out; omega
        rcases H4.out with h5 | ⟨g, o, rfl, hc⟩
        · omega
        have kb := hc q hps
        have hb := at_lt s (p + q)
        have c126 := hdig_c (at' s (p + q)) hb w
        clear hc hX hall
        cases hx : hxd (at' s (p + q)) with
        | true =>
          rw [hx, if_pos rfl] at c126
          have hv := hxv_lt hx
          have HN : Hid (∀ j, j < q + 1 → hxd (at' s (p + j)) = true) := fun j hj => by
            by_cases e : j < q
            · exact HA.out j e
            · obtain rfl : j = q := by omega
              exact hx
          have HV : Hid (hvn s p (q + 1) = 16 * hvn s p q + hxv (at' s (p + q))) := rfl
          clear hx
          generalize hvn s p q = X at *
          generalize hxv (at' s (p + q)) = Y at *
          generalize at' s (p + q) = x at *
          go_wp2_with (go_at_call 95; refine c126.mono ?_; rintro e w' ⟨rfl, rfl⟩)
          refine ⟨⟨q + 1, by omega, trivial, by rw [HV.out]; go_num, by go_num, HN.out⟩, by simp only [intOf]; omega⟩
        | false =>
          rw [hx, if_neg (by simp)] at c126
          have e : hcn s 4 p = q := hcn_of 4 p q hq HA.out (fun _ => hx)
          have E : Hid (hcn s 4 p = q) := e
          obtain ⟨X, hXe⟩ : ∃ X, hvn s p q = X := ⟨_, rfl⟩
          have HXE : Hid (hvn s p q = X) := hXe
          rw [hXe] at hX2 ⊢
          clear hx e hXe
          generalize at' s (p + q) = x at *
          go_wp2_with (go_at_call 95; refine c126.mono ?_; rintro e w' ⟨rfl, rfl⟩)
          go_ret2
          rw [E.out, HXE.out]
          exact ⟨rfl, rfl⟩
      · have d2 : decide ((q : Int) < (L : Int)) = false := by simp; omega
        have e : hcn s 4 p = q := hcn_of 4 p q hq HA.out (fun _ => by rw [at_out s (p + q) (by have := HL.out; omega)]; rfl)
        have E : Hid (hcn s 4 p = q) := e
        obtain ⟨X, hXe⟩ : ∃ X, hvn s p q = X := ⟨_, rfl⟩
        have HXE : Hid (hvn s p q = X) := hXe
        rw [hXe] at hX2 ⊢
        clear hX hall e hXe
        go_wp2_with fail
        go_ret2
        rw [E.out, HXE.out]
        exact ⟨rfl, rfl⟩
    · obtain rfl : q = 4 := by omega
      have d1 : decide ((4 : Int) < 4) = false := by simp
      have e : hcn s 4 p = 4 := hcn_of 4 p 4 hq HA.out (fun h => by omega)
      have E : Hid (hcn s 4 p = 4) := e
      obtain ⟨X, hXe⟩ : ∃ X, hvn s p 4 = X := ⟨_, rfl⟩
      have HXE : Hid (hvn s p 4 = X) := hXe
      rw [hXe]
      clear hX hall e hXe
      go_wp2_with fail
      go_ret2
      rw [E.out, HXE.out]
      exact ⟨rfl, rfl⟩
theorem low_c (x : Nat) (w : World) :
    Calls Tryz.prog 87 #[.int .i32 x] w fun e w' => e = .returned (.bool (decide (56320 ≤ x) && decide (x ≤ 57343))) ∧ w = w' := by
  by_cases h1 : 56320 ≤ x
  · have d1 : decide ((56320 : Int) ≤ (x : Int)) = true := by simp; omega
    by_cases h2 : x ≤ 57343
    · have d2 : decide ((x : Int) ≤ 57343) = true := by simp; omega
      rw [decide_eq_true h1, decide_eq_true h2]
      go_enter Tryz.func87, Tryz.ntmps87
      go_wp2_with fail
      go_ret
      exact ⟨rfl, rfl⟩
    · have d2 : decide ((x : Int) ≤ 57343) = false := by simp; omega
      rw [decide_eq_true h1, decide_eq_false h2]
      go_enter Tryz.func87, Tryz.ntmps87
      go_wp2_with fail
      go_ret
      exact ⟨rfl, rfl⟩
  · have d1 : decide ((56320 : Int) ≤ (x : Int)) = false := by simp; omega
    rw [decide_eq_false h1]
    go_enter Tryz.func87, Tryz.ntmps87
    go_wp2_with fail
    go_ret
    exact ⟨rfl, rfl⟩
theorem high_c (x : Nat) (w : World) :
    Calls Tryz.prog 88 #[.int .i32 x] w fun e w' => e = .returned (.bool (decide (55296 ≤ x) && decide (x < 56320))) ∧ w = w' := by
  by_cases h1 : 55296 ≤ x
  · have d1 : decide ((55296 : Int) ≤ (x : Int)) = true := by simp; omega
    by_cases h2 : x < 56320
    · have d2 : decide ((x : Int) < 56320) = true := by simp; omega
      rw [decide_eq_true h1, decide_eq_true h2]
      go_enter Tryz.func88, Tryz.ntmps88
      go_wp2_with fail
      go_ret
      exact ⟨rfl, rfl⟩
    · have d2 : decide ((x : Int) < 56320) = false := by simp; omega
      rw [decide_eq_true h1, decide_eq_false h2]
      go_enter Tryz.func88, Tryz.ntmps88
      go_wp2_with fail
      go_ret
      exact ⟨rfl, rfl⟩
  · have d1 : decide ((55296 : Int) ≤ (x : Int)) = false := by simp; omega
    rw [decide_eq_false h1]
    go_enter Tryz.func88, Tryz.ntmps88
    go_wp2_with fail
    go_ret
    exact ⟨rfl, rfl⟩
/-- From two bytes further on. -/
theorem Sub.two {w : World} {g o n cap : Nat} {s : ByteArray} {p : Nat} (h : Sub w (.slice (some ⟨g, o, none⟩) n cap) s p) (hp : p + 2 ≤ s.size) (a : Option Addr) (ha : a = some ⟨g, o + 2, none⟩ ∨ cap = 2) :
    Sub w (.slice a (n - 2) (cap - 2)) s (p + 2) := by
  obtain ⟨a', cap', e, h2, h3, h4⟩ := h
  cases e
  refine ⟨a, cap - 2, by congr 1 <;> omega, by omega, by unfold maxLen at *; omega, ?_⟩
  rcases h4 with h4 | ⟨g', o', e, hc⟩
  · omega
  · cases e
    rcases ha with rfl | ha
    · refine .inr ⟨g, o + 2, rfl, fun j hj => ?_⟩
      have := hc (2 + j) (by omega)
      rw [← Nat.add_assoc, ← Nat.add_assoc] at this
      exact this
    · exact .inl (by omega)
def xsOf (s : ByteArray) (p n : Nat) : List Int := (List.range n).map fun j => (at' s (p + j) : Int)
theorem u8_eq (c x : Nat) (hc : c < 256) (hx : x < 256) : (UInt8.ofNat c == UInt8.ofNat ((x : Int)).toNat) = decide (x = c) := by
  by_cases h : x = c
  · subst h; simp
  · rw [decide_eq_false h]
    have : UInt8.ofNat c ≠ UInt8.ofNat x := fun e => h (by have := congrArg UInt8.toNat e; rw [UInt8.toNat_ofNat', UInt8.toNat_ofNat'] at this; omega)
    simpa using this
theorem hp_eq (s : ByteArray) (p n : Nat) (hn : n = s.size - p) (h0 : 0 < n) : Lib.hasPrefix (Lib.bytesOf (xsOf s p n)) (Lib.bytesOf [92, 117]) = (decide (at' s p = 92) && decide (at' s (p + 1) = 117)) := by
  have a0 := u8_eq 92 (at' s p) (by omega) (at_lt s p)
  have a1 := u8_eq 117 (at' s (p + 1)) (by omega) (at_lt s _)
  unfold Lib.hasPrefix Lib.bytesOf xsOf
  match n, h0 with
  | 1, _ =>
    rw [at_out s (p + 1) (by omega)]
    simp [List.range_succ_eq_map, List.isPrefixOf]
  | m + 2, _ =>
    rw [List.range_succ_eq_map, List.range_succ_eq_map]
    simp only [List.map_cons, List.map_map, List.isPrefixOf, Nat.add_zero, List.map_nil, Bool.and_true]
    show (UInt8.ofNat 92 == UInt8.ofNat ((at' s p : Nat) : Int).toNat && UInt8.ofNat 117 == UInt8.ofNat ((at' s (p + 1) : Nat) : Int).toNat) = _
    rw [a0, a1]
set_option maxRecDepth 20000 in
theorem lowu_c {w : World} {v : Value} {s : ByteArray} {p : Nat} (h : Sub w v s p) (hs : s.size ≤ 65536) :
    Calls Tryz.prog 89 #[v] w fun e w' => e = .returned (.tuple #[.int .i32 (if low s p = true then hvl s (p + 2) else 0 : Nat), .bool (low s p)]) ∧ Below w.heap.size w w' := by
  have hs0 := h
  obtain ⟨a, cap, rfl, h2, h3, h4⟩ := h
  have hm : cap ≤ 9223372036854775807 := h3
  obtain ⟨L, hL⟩ : ∃ L, s.size - p = L := ⟨_, rfl⟩
  rw [hL] at h2 hs0 ⊢
  have hL2 : L ≤ 65536 := by omega
  have hcv : (convert 22 22 (.slice (some ⟨w.heap.size, 0, none⟩) 2 2)).run Tryz.prog (w.alloc (.cells #[.int .u8 92, .int .u8 117] 5)) = .ok (.slice (some ⟨w.heap.size, 0, none⟩) 2 2) (w.alloc (.cells #[.int .u8 92, .int .u8 117] 5 (2, 3))) :=
    Lib.run_convert_bytes_const w 22 5 #[.int .u8 92, .int .u8 117] 2 2 Tryz.underlying22 Tryz.underlying5
  obtain ⟨W, hW⟩ : ∃ W, w.alloc (.cells #[.int .u8 92, .int .u8 117] 5 (2, 3)) = W := ⟨_, rfl⟩
  have b0 : Below w.heap.size w W := by rw [← hW]; exact (Below.refl _ w).alloc (Nat.le_refl _) _
  have hx : W.heap[w.heap.size]? = some (.cells #[.int .u8 92, .int .u8 117] 5 (2, 3)) := by rw [← hW, heap_alloc_new]
  have hp2 : ∀ i, i < 2 → W.cell? ⟨w.heap.size, 0 + i, none⟩ = some (.int .u8 (([92, 117] : List Int).getD i 0)) := by
    intro i hi
    match i, hi with
    | 0, _ => simp [World.cell?, hx]
    | 1, _ => simp [World.cell?, hx]
  have hsW : Sub W (.slice a L cap) s p := hs0.keep fun g o x hx => below_cell hx b0
  by_cases h0 : L = 0
  · subst h0
    have e : low s p = false := by unfold low; rw [at_out s p (by omega)]; rfl
    rw [e]
    have c127 := Tryz.bytes_HasPrefix_e1 a (some ⟨w.heap.size, 0, none⟩) cap 2 2 (by omega) W
    clear e hs0 hsW h4 hp2 hx
    go_enter Tryz.func89, Tryz.ntmps89
    go_wp2_with (go_at_call 96; refine c127.mono ?_; rintro e w' ⟨rfl, rfl⟩)
    go_ret2
    exact ⟨rfl, b0⟩
  rcases h4 with h4 | ⟨g, o, rfl, hc⟩
  · omega
  have c127 := Tryz.bytes_HasPrefix g o L cap w.heap.size 0 2 2 (xsOf s p L) [92, 117] W (by simp [xsOf]) rfl h2 (fun i hi => by
    have := below_cell (hc i (by omega)) b0
    rw [this]
    simp [xsOf, hi]) hp2
  rw [hp_eq s p L hL.symm (by omega)] at c127
  cases hpre : (decide (at' s p = 92) && decide (at' s (p + 1) = 117)) with
  | false =>
    have e : low s p = false := by unfold low; rw [← Bool.and_assoc, hpre]; rfl
    rw [e]
    rw [hpre] at c127
    clear e hs0 hsW hc hp2 hx hpre
    go_enter Tryz.func89, Tryz.ntmps89
    go_wp2_with (go_at_call 96; refine c127.mono ?_; rintro e w' ⟨rfl, rfl⟩)
    go_ret2
    exact ⟨rfl, b0⟩
  | true =>
    have hp1 : p + 1 < s.size := at_in (by simp at hpre; omega)
    have hl2 : 2 ≤ L := by omega
    rw [hpre] at c127
    have e0 : low s p = (decide (hcn s 4 (p + 2) = 4) && (decide (56320 ≤ hvl s (p + 2)) && decide (hvl s (p + 2) ≤ 57343))) := by unfold low; rw [← Bool.and_assoc, hpre, Bool.true_and]
    rw [e0]
    clear hp2 hx hpre e0 hc hs0
    have hv4 := hvn_four s (p + 2)
    by_cases hc2 : cap = 2
    · have hLe : L = 2 := by omega
      subst hc2
      subst hLe
      have c116 := hexu_c (hsW.two (by omega) (some ⟨g, o, none⟩) (.inr rfl)) hs
      have hz : hcn s 4 (p + 2) = 0 := hcn_of 4 (p + 2) 0 (by omega) (fun j hj => by omega) (fun _ => by rw [at_out s _ (by omega)]; rfl)
      rw [hz] at c116 ⊢
      have e1 : hvn s (p + 2) 0 = 0 := rfl
      rw [e1] at c116
      clear hsW hz hv4 e1
      go_enter Tryz.func89, Tryz.ntmps89
      go_wp2_with (first | (go_at_call 96; refine c127.mono ?_; rintro e w' ⟨rfl, hw⟩; have hw := hw.symm; subst hw) | (go_at_call 86; refine c116.mono ?_; rintro e w' ⟨rfl, rfl⟩))
      go_ret2
      exact ⟨rfl, b0⟩
    have c116 := hexu_c (hsW.two (by omega) (some ⟨g, o + 2, none⟩) (.inl rfl)) hs
    by_cases h4 : hcn s 4 (p + 2) = 4
    · rw [h4, hv4] at c116
      rw [h4]
      have hv : hvl s (p + 2) < 65536 := by rw [← hv4]; exact hvn_lt 4 fun j hj => hcn_all h4 j hj
      have c117 := low_c (hvl s (p + 2)) W
      generalize hvl s (p + 2) = X at *
      clear hsW h4 hv4
      cases hlow : (decide (56320 ≤ X) && decide (X ≤ 57343)) with
      | true =>
        rw [hlow] at c117
        clear hlow
        go_enter Tryz.func89, Tryz.ntmps89
        go_wp2_with (first | (go_at_call 96; refine c127.mono ?_; rintro e w' ⟨rfl, hw⟩; have hw := hw.symm; subst hw) | (go_at_call 86; refine c116.mono ?_; rintro e w' ⟨rfl, rfl⟩) | (go_at_call 87; refine c117.mono ?_; rintro e w' ⟨rfl, rfl⟩))
        go_ret2
        exact ⟨rfl, b0⟩
      | false =>
        rw [hlow] at c117
        clear hlow
        go_enter Tryz.func89, Tryz.ntmps89
        go_wp2_with (first | (go_at_call 96; refine c127.mono ?_; rintro e w' ⟨rfl, hw⟩; have hw := hw.symm; subst hw) | (go_at_call 86; refine c116.mono ?_; rintro e w' ⟨rfl, rfl⟩) | (go_at_call 87; refine c117.mono ?_; rintro e w' ⟨rfl, rfl⟩))
        go_ret2
        exact ⟨rfl, b0⟩
    · have hlt : hcn s 4 (p + 2) < 4 := by have := hcn_le s 4 (p + 2); omega
      rw [decide_eq_false h4]
      have hd : decide (((hcn s 4 (p + 2) : Nat) : Int) < 4) = true := by simp; omega
      generalize hcn s 4 (p + 2) = Q at *
      generalize hvn s (p + 2) Q = X at *
      clear hsW h4 hv4
      go_enter Tryz.func89, Tryz.ntmps89
      go_wp2_with (first | (go_at_call 96; refine c127.mono ?_; rintro e w' ⟨rfl, hw⟩; have hw := hw.symm; subst hw) | (go_at_call 86; refine c116.mono ?_; rintro e w' ⟨rfl, rfl⟩))
      go_ret2
      exact ⟨rfl, b0⟩
end Go.Proofs.YthkpbhgbmagaeaaGreatDoor.Chr

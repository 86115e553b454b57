/- The contract of the document's Plain. -/
import Derived.Test.YtfglbgnjgapehaaHRow
import Derived.Test.YtfglbgnjgapehaaHFind
namespace Go.Proofs.Ytfglbgnjgapehaa.HRplain
open Go.ChangeShapes Go.WideShapes Go.ChangeAt Go.RowKit Go.Proofs.Ytfglbgnjgapehaa.HBase Go.Proofs.Ytfglbgnjgapehaa.HSmall Go.Proofs.Ytfglbgnjgapehaa.HRow Go.Proofs.Ytfglbgnjgapehaa.HFind
set_option linter.unusedVariables false

/-- Read so far. -/
def Read (s : ByteArray) (n : Nat) (acc : List UInt8) : Prop := n ≤ s.size ∧ acc.length ≤ n ∧ ∃ f, s.size ≤ n + f ∧ pl f (s.data.toList.drop n) n acc = plain s
theorem read_start (s : ByteArray) : Read s 0 [] := ⟨by omega, by simp, s.size, by omega, rfl⟩
theorem read_byte {s : ByteArray} {n : Nat} {acc : List UInt8} {c : UInt8} (h : Read s n acc) (hn : n < s.size) (hc : s[n] = c) (h38 : ¬ c.toNat = 38) : Read s (n + 1) (acc ++ [c]) := by
  obtain ⟨_, ha, f, hf, e⟩ := h
  obtain ⟨g, hg, e2⟩ := go_byte (acc := acc) hn hc h38 hf
  exact ⟨by omega, by simp; omega, g, hg, e2 ▸ e⟩
theorem read_hit {s : ByteArray} {n k : Nat} {acc : List UInt8} {c : UInt8} (h : Read s n acc) (hn : n < s.size) (hc : s[n] = c) (h38 : c.toNat = 38) (hk : k < 5) (hm : miss k (s.data.toList.drop n)) (hp : pre (sp k) (s.data.toList.drop n) = true) :
    Read s (n + (entB (sp k)).size) (acc ++ [UInt8.ofNat (sp k)]) ∧ n < n + (entB (sp k)).size := by
  obtain ⟨_, ha, f, hf, e⟩ := h
  have h0 := sp_pos hk
  obtain ⟨g, hg, e2⟩ := go_hit (acc := acc) hn hc h38 hf (miss_hit hm hk hp) h0
  exact ⟨⟨pre_in (by omega) hp, by simp; omega, g, hg, e2 ▸ e⟩, by omega⟩
theorem read_none {s : ByteArray} {n : Nat} {acc : List UInt8} {c : UInt8} (h : Read s n acc) (hn : n < s.size) (hc : s[n] = c) (h38 : c.toNat = 38) (hm : miss 5 (s.data.toList.drop n)) :
    (⟨#[]⟩ : ByteArray) = ptext s ∧ n = pat s ∧ 400 = perr s := by
  obtain ⟨_, ha, f, hf, e⟩ := h
  rw [go_none hn hc h38 hf (miss_all hm)] at e
  exact ans e
theorem read_end {s : ByteArray} {n : Nat} {acc : List UInt8} (h : Read s n acc) (hn : ¬ n < s.size) : (⟨acc.toArray⟩ : ByteArray) = ptext s ∧ 0 = pat s ∧ 0 = perr s := by
  obtain ⟨_, ha, f, hf, e⟩ := h
  rw [go_end (by omega)] at e
  exact ans e
set_option maxRecDepth 20000 in
set_option maxHeartbeats 800000 in
theorem rplain_c (s : ByteArray) (hs : s.size ≤ 140737488351232) (w : World) :
    Calls Try.prog 49 #[.string s] w fun r w' => r = .returned (.tuple #[.string (ptext s), .int .i64 (pat s), .int .i64 (perr s)]) ∧ Below w.heap.size w w' := by
  obtain ⟨i0, hi, hz0, hz1, hz2⟩ := info_parts info5
  go_enter Try.func49, Try.ntmps49
  go_wp2
  go_loopw [5, 6] (fun v i wr => ∃ (n : Nat) (L : List UInt8), i = .int .i64 n ∧ Below w.heap.size w wr ∧ Own wr w.heap.size v L ∧ Hid (Read s n L)) (fun _ i _ => s.size - (intOf i).toNat)
  case atStart => exact ⟨0, [], rfl, Below.refl _ _, World.ownsRow_nil _ _ _ _, read_start s⟩
  case round =>
    obtain ⟨n, L, rfl, hb, hown, HR⟩ := hrel
    have hsz := hb.size
    have hn := HR.out.1
    have hlen := HR.out.2.1
    by_cases hlt : n < s.size
    · obtain ⟨c, hc⟩ : ∃ c : UInt8, s[n] = c := ⟨_, rfl⟩
      by_cases h38 : c.toNat = 38
      · have h38' : ((c.toNat : Int) == 38) = true := by simp; omega
        go_wp2
        go_loopw [5, 6, 7, 9] (fun v' i fd k wy => (∃ j : Nat, j ≤ 5 ∧ k = .int .i64 j ∧ i = .int .i64 n ∧ fd = .bool false ∧ v' = u5 ∧ wy = wr ∧ Hid (miss j (s.data.toList.drop n))) ∨ (∃ (j m : Nat) (M : List UInt8), j ≤ 5 ∧ k = .int .i64 j ∧ i = .int .i64 m ∧ fd = .bool true ∧ Below w.heap.size w wy ∧ Own wy w.heap.size v' M ∧ Hid (Read s m M ∧ n < m))) (fun _ _ _ k _ => 5 - (intOf k).toNat)
        case atStart => exact Or.inl ⟨0, by omega, rfl, rfl, rfl, rfl, rfl, miss_zero _⟩
        case round =>
          rcases hrel with ⟨j, hj, rfl, rfl, rfl, rfl, rfl, HM⟩ | ⟨j, m, M, hj, rfl, rfl, rfl, hb2, hown2, HR2⟩
          · by_cases hj5 : j < 5
            · have hb0 := sp_get hj5 (by exact hj5)
              obtain ⟨b, hsp⟩ : ∃ b, sp j = b := ⟨_, rfl⟩
              obtain ⟨X, hX⟩ : ∃ X, rentB b true = X := ⟨_, rfl⟩
              have HX : Hid (entB (sp j) = X) := by show _ = _; rw [hsp, ← hX]; simp [rentB]
              have HS : Hid (sp j = b) := hsp
              rw [hsp] at hb0
              clear hsp
              by_cases hfit : n + X.size ≤ s.size
              · have hfit' : (X.size : Int) ≤ (s.size : Int) - n := by omega
                have hsl : ∀ w : World, (Instr.slice 9 (.string s) (some (.int .i64 n)) (some (.int .i64 ((n : Int) + X.size))) none).run Try.prog w = .ok (.string (s.extract n (n + X.size))) w := fun w => by
                  have h := run_slice_string (P := Try.prog) w 9 s .i64 .i64 n ((n : Int) + X.size) Try.underlying9 (by omega) (by omega) (by omega)
                  rw [h]
                  congr 2
                cases hq : ((s.extract n (n + X.size)).toList == X.toList) with
                | false =>
                  have HM2 : Hid (miss (j + 1) (s.data.toList.drop n)) := miss_more HM.out hj5 (by rw [← pre_mid (by rw [HX.out]; exact hfit), HX.out]; exact hq)
                  go_wp2_with (first
                    | (go_at_call 64; refine (rentity_c _ b rfl _ _).mono ?_; rintro e w' ⟨rfl, rfl⟩))
                  go_roundw
                  case rel => exact Or.inl ⟨j + 1, by omega, by go_num, (by first | rfl | trivial), (by first | rfl | trivial), (by first | rfl | trivial), (by first | rfl | trivial), HM2⟩
                  case measure => simp only [intOf]; omega
                | true =>
                  have HR2 := read_hit HR.out hlt hc h38 hj5 HM.out (by rw [← pre_mid (by rw [HX.out]; exact hfit), HX.out]; exact hq)
                  rw [HX.out, HS.out] at HR2
                  have HR3 : Hid (Read s (n + X.size) (L ++ [UInt8.ofNat b]) ∧ n < n + X.size) := HR2
                  have HB : Hid ((UInt8.ofNat b).toNat = b) := by show _ = _; rw [← HS.out]; exact sp_toNat j
                  clear HR2
                  go_wp2_with (first
                    | (go_at_call 64; refine (rentity_c _ b rfl _ _).mono ?_; rintro e w' ⟨rfl, rfl⟩)
                    | (at_builtin; refine wpList_append_own _ rfl _ _ 63 rfl w.heap.size 5 i0 (.int .u8 0) 1 1 Try.underlying63 hi hz0 hz1 hz2 rfl (by decide) _ _ _ rfl (World.ownsRow.alloc hown _) ⟨_, 0, none⟩ 1 1 [.int .u8 (b : Int)] rfl rfl (cell_one_byte _ b) (by intro u hu; simp at hu; subst hu; rfl) (by unfold maxLen; omega) (by omega) (by simp; omega) ?_))
                  intro v' w2 hown' hgrow _
                  have hb3 := (hb.alloc hsz (.cells #[.int .u8 (b : Int)] 5)).grown hgrow (by simp; omega) (fun k hk => (World.ownsRow.lt hown k hk).1)
                  have ho : Own w2 w.heap.size v' (L ++ [UInt8.ofNat b]) := own_more (by rw [HB.out]; exact hown')
                  clear hown' hgrow hown hb HR HM
                  go_wp2
                  go_roundw
                  case rel => exact Or.inr ⟨j + 1, n + X.size, L ++ [UInt8.ofNat b], by omega, by go_num, by go_num, (by first | rfl | trivial), hb3, ho, HR3⟩
                  case measure => simp only [intOf]; omega
              · have hfit' : ¬ (X.size : Int) ≤ (s.size : Int) - n := by omega
                have HM2 : Hid (miss (j + 1) (s.data.toList.drop n)) := miss_more HM.out hj5 (pre_out (by rw [HX.out]; exact hfit) hn)
                go_wp2_with (first
                  | (go_at_call 64; refine (rentity_c _ b rfl _ _).mono ?_; rintro e w' ⟨rfl, rfl⟩))
                go_roundw
                case rel => exact Or.inl ⟨j + 1, by omega, by go_num, (by first | rfl | trivial), (by first | rfl | trivial), (by first | rfl | trivial), (by first | rfl | trivial), HM2⟩
                case measure => simp only [intOf]; omega
            · obtain rfl : j = 5 := by omega
              have HE : Hid ((⟨#[]⟩ : ByteArray) = ptext s ∧ n = pat s ∧ 400 = perr s) := read_none HR.out hlt hc h38 HM.out
              clear hown HR HM
              go_wp2
              go_ret3
              obtain ⟨e1, e2, e3⟩ := HE.out
              rw [← e1, ← e2, ← e3]
              exact ⟨rfl, hb⟩
          · have hnm := HR2.out.2
            have HR3 : Hid (Read s m M) := HR2.out.1
            have hm := HR3.out.1
            clear HR2
            by_cases hj5 : j < 5
            · go_wp2
              go_roundw
              case rel => exact ⟨m, M, rfl, hb2, hown2, HR3⟩
              case measure => simp only [intOf]; omega
            · obtain rfl : j = 5 := by omega
              go_wp2
              go_roundw
              case rel => exact ⟨m, M, rfl, hb2, hown2, HR3⟩
              case measure => simp only [intOf]; omega
      · have h38' : ((c.toNat : Int) == 38) = false := by simp; omega
        go_wp2_with (first
          | (at_builtin; refine wpList_append_own _ rfl _ _ 63 rfl w.heap.size 5 i0 (.int .u8 0) 1 1 Try.underlying63 hi hz0 hz1 hz2 rfl (by decide) _ _ _ rfl (World.ownsRow.alloc hown _) ⟨_, 0, none⟩ 1 1 [.int .u8 (c.toNat : Int)] rfl rfl (cell_one_byte _ c.toNat) (by intro u hu; simp at hu; subst hu; rfl) (by unfold maxLen; omega) (by omega) (by simp; omega) ?_))
        intro v' w2 hown' hgrow _
        have hb3 := (hb.alloc hsz (.cells #[.int .u8 (c.toNat : Int)] 5)).grown hgrow (by simp; omega) (fun k hk => (World.ownsRow.lt hown k hk).1)
        have ho := own_more hown'
        have HR2 : Hid (Read s (n + 1) (L ++ [c])) := read_byte HR.out hlt hc h38
        clear hown' hgrow hown hb HR
        go_wp2
        go_roundw
        case rel => exact ⟨n + 1, L ++ [c], by go_num, hb3, ho, HR2⟩
        case measure => simp only [intOf]; omega
    · have hconv := own_conv hown
      have HE : Hid ((⟨L.toArray⟩ : ByteArray) = ptext s ∧ 0 = pat s ∧ 0 = perr s) := read_end HR.out hlt
      clear hown HR
      go_wp2
      go_ret3
      obtain ⟨e1, e2, e3⟩ := HE.out
      rw [e1, ← e2, ← e3]
      exact ⟨rfl, hb⟩
end Go.Proofs.Ytfglbgnjgapehaa.HRplain

/- The contract of the program's Plain. -/
import Derived.Test.YtfglbgnjgapehaaHRplain
import Derived.Test.YtfglbgnjgapehaaHBuild
import Derived.Test.YtfglbgnjgapehaaShelf
import Derived.WalkMore
import Derived.Deep.LoopGhost
namespace Go.Proofs.Ytfglbgnjgapehaa.HPlain
open Go.ChangeShapes Go.WideShapes Go.ChangeAt Go.RowKit Go.Proofs.Ytfglbgnjgapehaa.HBase Go.Proofs.Ytfglbgnjgapehaa.HSmall Go.Proofs.Ytfglbgnjgapehaa.HRow Go.Proofs.Ytfglbgnjgapehaa.HFind Go.Proofs.Ytfglbgnjgapehaa.HRplain
set_option linter.unusedVariables false

set_option maxRecDepth 20000 in
set_option maxHeartbeats 800000 in
theorem plain_c (s : ByteArray) (hs : s.size ≤ 140737488351232) (w : World) :
    Calls Try.prog 72 #[.string s] w fun r w' => r = .returned (.tuple #[.string (ptext s), .int .i64 (pat s), .int .i64 (perr s)]) ∧ Below w.heap.size w w' := by
  go_enter Try.func72, Try.ntmps72
  go_wp2
  go_step3
  go_wp2
  go_step3
  go_wp2
  go_loopg [6] s.size (fun g i wr => ∃ (n : Nat) (L : List UInt8), n + g = s.size ∧ i = .int .i64 n ∧ Below w.heap.size w wr ∧ Lib.IsBuilder 65 5 w.heap.size w.heap.size (Lib.byteCells L) wr ∧ Hid (HRplain.Read s n L))
  case atStart => exact ⟨0, [], by omega, rfl, (Below.refl _ w).alloc (Nat.le_refl _) _, Lib.fresh_isBuilder 65 5 w, read_start s⟩
  case round =>
    obtain ⟨n, L, hg, rfl, hb, hI, HR⟩ := hrel
    have hsz := hb.size
    have hn := HR.out.1
    have hlen : (Lib.byteCells L).length ≤ n := by rw [Lib.byteCells_length]; exact HR.out.2.1
    by_cases hlt : n < s.size
    · obtain ⟨c, hc⟩ : ∃ c : UInt8, s[n] = c := ⟨_, rfl⟩
      by_cases h38 : c.toNat = 38
      · have h38' : ((c.toNat : Int) == 38) = true := by simp; omega
        go_wp2
        go_loopg [6, 23] 5 (fun g2 a i wy => ∃ j : Nat, j + g2 = 5 ∧ a = .int .i64 n ∧ i = .int .i64 j ∧ wr = wy ∧ Hid (miss j (s.data.toList.drop n)))
        case atStart => exact ⟨0, by omega, rfl, rfl, rfl, miss_zero _⟩
        case round =>
          obtain ⟨j, hg2, rfl, rfl, rfl, HM⟩ := hrel
          by_cases hj5 : j < 5
          · have hb0 := sp_get hj5 (by exact hj5)
            obtain ⟨b, hsp⟩ : ∃ b, sp j = b := ⟨_, rfl⟩
            obtain ⟨X, hX⟩ : ∃ X, entB b = X := ⟨_, rfl⟩
            have HX : Hid (entB (sp j) = X) := by show _ = _; rw [hsp, ← hX]
            have HS : Hid (sp j = b) := hsp
            rw [hsp] at hb0
            clear hsp
            obtain ⟨d, hd⟩ : ∃ d, s.extract n s.size = d := ⟨_, rfl⟩
            have HD : Hid (Lib.hasPrefix d.data.toList X.data.toList = pre (sp j) (s.data.toList.drop n)) := by
              show _ = _
              rw [← pre_behind, hd, HX.out]
            cases hp : Lib.hasPrefix d.data.toList X.data.toList with
            | false =>
              have HM2 : Hid (miss (j + 1) (s.data.toList.drop n)) := miss_more HM.out hj5 (by rw [← HD.out]; exact hp)
              go_wp2_with (first
                | (go_at_call 35; refine (entity_c _ b rfl _).mono ?_; rintro e w' ⟨rfl, rfl⟩)
                | (go_at_call 39; refine (Try.strings_HasPrefix _ _ _).mono ?_; rintro e w' ⟨rfl, rfl⟩))
              go_roundg (4 - j)
              case rel => exact ⟨j + 1, by omega, rfl, by go_num, rfl, HM2⟩
              case measure => omega
            | true =>
              have HR2 := read_hit HR.out hlt hc h38 hj5 HM.out (by rw [← HD.out]; exact hp)
              rw [HX.out, HS.out] at HR2
              obtain ⟨HR2, hX0⟩ := HR2
              have hX1 := HR2.1
              have HR3 : Hid (HRplain.Read s (n + X.size) (L ++ [UInt8.ofNat b])) := HR2
              have HB : Hid ((UInt8.ofNat b).toNat = b) := by show _ = _; rw [← HS.out]; exact sp_toNat j
              clear HR2 HD
              go_wp2_with (first
                | (go_at_call 35; refine (entity_c _ b rfl _).mono ?_; rintro e w' ⟨rfl, rfl⟩)
                | (go_at_call 39; refine (Try.strings_HasPrefix _ _ _).mono ?_; rintro e w' ⟨rfl, rfl⟩)
                | (go_at_call 36; refine (HBuild.byte_c _ _ _ b _ hI (by omega) (by omega)).mono ?_))
              rintro e w2 ⟨rfl, hI2, hb2⟩
              have hI3 : Lib.IsBuilder 65 5 w.heap.size w.heap.size (Lib.byteCells (L ++ [UInt8.ofNat b])) w2 := by
                rw [Lib.byteCells_append]
                simp only [Lib.byteCells, List.map_cons, List.map_nil, HB.out]
                exact hI2
              have hb3 := hb.trans hb2
              clear hI hI2 hb hb2 HR HM
              go_wp2
              go_roundg (s.size - (n + X.size))
              case rel => exact ⟨n + X.size, L ++ [UInt8.ofNat b], by omega, by go_num, hb3, hI3, HR3⟩
              case measure => omega
          · obtain rfl : j = 5 := by omega
            have HE : Hid ((⟨#[]⟩ : ByteArray) = ptext s ∧ n = pat s ∧ 400 = perr s) := read_none HR.out hlt hc h38 HM.out
            clear hI HR HM
            go_wp2
            try rw [Exit.noGoto_ret]
            go_ret3
            obtain ⟨e1, e2, e3⟩ := HE.out
            rw [← e1, ← e2, ← e3]
            exact ⟨rfl, hb⟩
      · have h38' : ((c.toNat : Int) == 38) = false := by simp; omega
        have HR2 : Hid (HRplain.Read s (n + 1) (L ++ [c])) := read_byte HR.out hlt hc h38
        go_wp2_with (first
          | (go_at_call 36; refine (HBuild.byte_c _ _ _ c.toNat _ hI (by omega) (by omega)).mono ?_))
        rintro e w2 ⟨rfl, hI2, hb2⟩
        have hI3 : Lib.IsBuilder 65 5 w.heap.size w.heap.size (Lib.byteCells (L ++ [c])) w2 := by
          rw [Lib.byteCells_append]
          exact hI2
        have hb3 := hb.trans hb2
        clear hI hI2 hb hb2 HR
        go_wp2
        go_roundg (s.size - (n + 1))
        case rel => exact ⟨n + 1, L ++ [c], by omega, by go_num, hb3, hI3, HR2⟩
        case measure => omega
    · have HE : Hid ((⟨L.toArray⟩ : ByteArray) = ptext s ∧ 0 = pat s ∧ 0 = perr s) := read_end HR.out hlt
      clear HR
      go_wp2_with (first
        | (go_at_call 38; refine (Try.Builder_String_any _ _ L _ hI (by omega)).mono ?_))
      rintro e w2 ⟨rfl, hb2⟩
      go_wp2
      try rw [Exit.noGoto_ret]
      go_ret3
      obtain ⟨e1, e2, e3⟩ := HE.out
      rw [e1, ← e2, ← e3]
      exact ⟨rfl, hb.trans hb2⟩
end Go.Proofs.Ytfglbgnjgapehaa.HPlain

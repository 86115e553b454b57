/- Contract of the program's Valid. -/
import Derived.Test.YthjbknncbhkinaaGreatDoorUValid
import Derived.WalkSpells
namespace Go.Proofs.YthjbknncbhkinaaGreatDoor.UOwn
open Go.ChangeShapes Go.WideShapes Go.ChangeAt Go.RowKit Go.Proofs.YthjbknncbhkinaaGreatDoor.UBase Go.Proofs.YthjbknncbhkinaaGreatDoor.USmall Go.Proofs.YthjbknncbhkinaaGreatDoor.ULength Go.Proofs.YthjbknncbhkinaaGreatDoor.UValid
set_option linter.unusedVariables false

theorem at_extract (s : ByteArray) (i n k : Nat) (hn : n ≤ s.size) (hk : i + k < n) : at' (s.extract i n) k = at' s (i + k) := by
  rw [at_list, at_list, ByteArray.data_extract, Array.toList_extract, List.extract_eq_take_drop, List.getElem?_take, List.getElem?_drop, if_pos (by omega)]
theorem at_behind (s : ByteArray) (i k : Nat) : at' (s.extract i s.size) k = at' s (i + k) := by
  by_cases h : i + k < s.size
  · exact at_extract s i s.size k (Nat.le_refl _) h
  · rw [at_out s _ h, at_out _ k (by simp; omega)]
theorem rep_behind (s : ByteArray) (i : Nat) : rep (s.extract i s.size) 0 = rep s i := by
  unfold rep
  rw [at_behind, at_behind, at_behind]
  rfl
theorem valid_c (s : ByteArray) (hs : s.size ≤ 9223372036854775807) (w : World) :
    Calls Tryz.prog 72 #[.string s] w fun r w' => r = .returned (.tuple #[.int .i64 (vat s), .int .i64 (verr s)]) ∧ ∃ p, w' = w.iter s p := by
  go_enter Tryz.func72, Tryz.ntmps72
  go_wp2
  go_loopw [] (fun wr => ∃ n : Nat, n ≤ s.size ∧ wr = w.iter s n ∧ bad s 0 = bad s n) (fun wr => s.size - wr.iterPos w.heap.size)
  case atStart => exact ⟨0, by omega, rfl, rfl⟩
  case round =>
    obtain ⟨n, hn, rfl, hb⟩ := hrel
    have HB : Hid (bad s 0 = bad s n) := hb
    clear hb
    by_cases hlt : n < s.size
    · have hnx : ∀ ty, (Instr.next (.pointer (some ⟨w.heap.size, 0, none⟩)) true ty).run Tryz.prog (w.iter s n) = _ := fun ty => run_next_any w s n ty hlt
      have hd := dec_len s n
      obtain ⟨hd1, hd2, _⟩ := hd
      have hi := len_in hlt
      have cp : ∀ w, Calls Tryz.prog 94 #[.string (s.extract n s.size)] w fun r w' => r = .returned (.bool (rep s n)) ∧ w' = w := fun w => by
        rw [← rep_behind]
        exact pre_c _ (by simp; omega) w
      by_cases hz : len s n = 0
      · obtain ⟨e1, e2⟩ := hd1.mp hz
        go_wp2_with (first | (go_at_call 94; refine (cp _).mono ?_; rintro e w' ⟨rfl, rfl⟩))
        go_ret2
        have e := verr_some (HB.out.trans (bad_here hlt hz))
        rw [e.1, e.2]
        exact ⟨rfl, _, rfl⟩
      · have hw := hd2 hz
        by_cases hf : (Utf8.decode s n).1 = 65533
        · have e2 : rep s n = true := by
            cases h : rep s n with
            | true => rfl
            | false => exact absurd (hd1.mpr ⟨hf, h⟩) hz
          go_wp2_with (first | (go_at_call 94; refine (cp _).mono ?_; rintro e w' ⟨rfl, rfl⟩))
          go_roundw
          case rel => exact ⟨n + len s n, hi, rfl, HB.out.trans (bad_step hlt hz)⟩
          case measure => simp; omega
        · have hf' : (((Utf8.decode s n).1 : Int) == 65533) = false := by simp; omega
          go_wp2
          go_roundw
          case rel => exact ⟨n + len s n, hi, rfl, HB.out.trans (bad_step hlt hz)⟩
          case measure => simp; omega
    · have hnx : ∀ ty, (Instr.next (.pointer (some ⟨w.heap.size, 0, none⟩)) true ty).run Tryz.prog (w.iter s n) = _ := fun ty => run_next_end w s n ty hlt
      go_wp2
      go_ret2
      have e := verr_none (HB.out.trans (bad_end hlt))
      rw [e.1, e.2]
      exact ⟨rfl, _, rfl⟩
end Go.Proofs.YthjbknncbhkinaaGreatDoor.UOwn

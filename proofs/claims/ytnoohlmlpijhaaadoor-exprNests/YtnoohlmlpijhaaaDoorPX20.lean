import Derived.LoopN
import Derived.LoopTactic
import Derived.Test.YtnoohlmlpijhaaaDoorPX16
namespace Go.Proofs.YtnoohlmlpijhaaaDoor.PTx
open Go.RowKit Go.Proofs.YtnoohlmlpijhaaaDoor.Base Go.Proofs.YtnoohlmlpijhaaaDoor.UBase Go.Proofs.YtnoohlmlpijhaaaDoor.EPure Go.Proofs.YtnoohlmlpijhaaaDoor.ETx Go.Proofs.YtnoohlmlpijhaaaDoor.PPk
set_option linter.unusedVariables false
/-- A byte of a text as it is written. -/
def qb (c : UInt8) : List UInt8 := if c = 39 then [92, 39] else if c = 92 then [92, 92] else if c = 125 then [92, 125] else if c = 10 then [92, 110] else [c]
def qt (s : ByteArray) : List UInt8 := 39 :: (s.data.toList.flatMap qb ++ [39])
theorem qb_len (c : UInt8) : (qb c).length ≤ 2 := by
  unfold qb
  repeat' split
  all_goals simp
theorem fm_len (l : List UInt8) : (l.flatMap qb).length ≤ 2 * l.length := by
  induction l with
  | nil => simp
  | cons c l ih =>
    have := qb_len c
    simp only [List.flatMap_cons, List.length_append, List.length_cons]
    omega
theorem idx_no : ∀ c : Fin 256, c.1 ≠ 39 → c.1 ≠ 92 → c.1 ≠ 125 → c.1 ≠ 10 → Lib.indexByte [39, 92, 125, 10] c.1.toUInt8 = -1 := by
  set_option maxRecDepth 40000 in decide
set_option maxRecDepth 20000 in
set_option maxHeartbeats 1600000 in
theorem text_c {B : Nat} {w0 W : World} {v : Value} {L : List UInt8} {s : ByteArray} (h : Pk B w0 W v L []) (hl : L.length ≤ 100000000000) (hs : s.size ≤ 1000000000) :
    Calls Tryd.prog 40 #[v, .string s] W fun e W' => ∃ v', e = .returned v' ∧ Pk B w0 W' v' (L ++ qt s) [] := by
  have hp1 := h.lay [39] #[.int .u8 39] rfl
  obtain ⟨ao, no, co, rfl⟩ := h.shape
  clear h
  go_enter Tryd.func40, Tryd.ntmps40
  go_wp2_with (first | (at_builtin; refine list_bytes rfl _ _ rfl hp1 rfl _ _ [39] rfl (by simp) (by simp only [List.length_cons, List.length_nil]; omega) ?_))
  intro v1 W1 hp2
  have HP : Hid (Pk B w0 W1 v1 (L ++ [39]) []) := hp2.bare
  obtain ⟨a1, n1, c1, rfl⟩ := hp2.shape
  clear hp1 hp2
  go_wp2_with fail
  go_loopw [0, 12] (fun out ii wr => ∃ q : Nat, q ≤ s.size ∧ ii = .int .i64 q ∧ Pk B w0 wr out (L ++ 39 :: (s.data.toList.take q).flatMap qb) []) (fun _ ii _ => s.size - (intOf ii).toNat)
  case atStart => exact ⟨0, by omega, rfl, by simpa using HP.out⟩
  case round =>
    obtain ⟨q, hq, rfl, hp⟩ := hrel
    have hfl := fm_len (s.data.toList.take q)
    have hfl2 : (s.data.toList.take q).length ≤ q := by rw [List.length_take]; omega
    have hlenq : (L ++ 39 :: (s.data.toList.take q).flatMap qb).length ≤ 110000000000 := by simp only [List.length_append, List.length_cons]; omega
    by_cases hlt : q < s.size
    · have e1 : s.data.toList.take (q + 1) = s.data.toList.take q ++ [s[q]] := by
        rw [List.take_succ_eq_append_getElem (by simpa using hlt)]
        rfl
      have HE : Hid (∀ x, qb s[q] = x → ∀ w2 v2, Pk B w0 w2 v2 ((L ++ 39 :: (s.data.toList.take q).flatMap qb) ++ x) [] → Pk B w0 w2 v2 (L ++ 39 :: (s.data.toList.take (q + 1)).flatMap qb) []) := by
        intro x hx w2 v2 hp2
        rw [e1, List.flatMap_append]
        rw [← hx] at hp2
        simpa [List.append_assoc] using hp2
      obtain ⟨M, hM⟩ : ∃ M, L ++ 39 :: (s.data.toList.take q).flatMap qb = M := ⟨_, rfl⟩
      rw [hM] at hp hlenq HE
      obtain ⟨cc, hcc⟩ : ∃ cc : UInt8, s[q] = cc := ⟨_, rfl⟩
      have HC : Hid (s[q] = cc) := hcc
      obtain ⟨y, hy⟩ : ∃ y, cc.toNat = y := ⟨_, rfl⟩
      have hy256 : y < 256 := by rw [← hy]; exact UInt8.toNat_lt cc
      have HYC : Hid (cc.toNat = y) := hy
      have HCE : ∀ n : Nat, n < 256 → y = n → cc = UInt8.ofNat n := fun n hn e => by apply UInt8.toNat_inj.1; rw [UInt8.toNat_ofNat', hy]; omega
      have cI := fun W => Tryd.strings_IndexByte ⟨#[39, 92, 125, 10]⟩ (y : Int) W
      rw [Int.toNat_natCast] at cI
      clear hM e1 hfl hfl2
      by_cases h39 : y = 39
      · have hx : qb s[q] = [92, 39] := by rw [HC.out, HCE 39 (by omega) h39]; rfl
        have hi : Lib.indexByte (⟨#[39, 92, 125, 10]⟩ : ByteArray).data.toList y.toUInt8 = 0 := by rw [h39]; decide
        have cI2 := cI wr
        rw [hi] at cI2
        obtain ⟨ap, np, cp, rfl⟩ := hp.shape
        have hp3 := hp.lay [92, 39] #[.int .u8 92, .int .u8 39] rfl
        have HX : Hid (qb s[q] = [92, 39]) := hx
        clear cI hx hi HCE h39 hp
        go_wp2_with fail
        refine cI2.mono ?_
        rintro e w1 ⟨rfl, rfl⟩
        go_wp2_with (first | (at_builtin; refine list_bytes rfl _ _ rfl hp3 rfl _ _ [92, 39] rfl (by simp) (by simp only [List.length_cons, List.length_nil]; omega) ?_))
        intro v2 W2 hp4
        have HP4 := HE.out _ HX.out W2 v2 hp4.bare
        have HP5 : Hid (Pk B w0 W2 v2 (L ++ 39 :: (s.data.toList.take (q + 1)).flatMap qb) []) := HP4
        obtain ⟨a2, n2, c2, rfl⟩ := hp4.shape
        clear hp4 hp3 cI2 HP4
        go_wp2_with fail
        go_roundw
        case rel => exact ⟨q + 1, by omega, by go_num, HP5.out⟩
        case measure => simp only [intOf]; omega
      by_cases h92 : y = 92
      · have hx : qb s[q] = [92, 92] := by rw [HC.out, HCE 92 (by omega) h92]; rfl
        have hi : Lib.indexByte (⟨#[39, 92, 125, 10]⟩ : ByteArray).data.toList y.toUInt8 = 1 := by rw [h92]; decide
        have cI2 := cI wr
        rw [hi] at cI2
        obtain ⟨ap, np, cp, rfl⟩ := hp.shape
        have hp3 := hp.lay [92, 92] #[.int .u8 92, .int .u8 92] rfl
        have HX : Hid (qb s[q] = [92, 92]) := hx
        clear cI hx hi HCE h92 hp
        go_wp2_with fail
        refine cI2.mono ?_
        rintro e w1 ⟨rfl, rfl⟩
        go_wp2_with (first | (at_builtin; refine list_bytes rfl _ _ rfl hp3 rfl _ _ [92, 92] rfl (by simp) (by simp only [List.length_cons, List.length_nil]; omega) ?_))
        intro v2 W2 hp4
        have HP4 := HE.out _ HX.out W2 v2 hp4.bare
        have HP5 : Hid (Pk B w0 W2 v2 (L ++ 39 :: (s.data.toList.take (q + 1)).flatMap qb) []) := HP4
        obtain ⟨a2, n2, c2, rfl⟩ := hp4.shape
        clear hp4 hp3 cI2 HP4
        go_wp2_with fail
        go_roundw
        case rel => exact ⟨q + 1, by omega, by go_num, HP5.out⟩
        case measure => simp only [intOf]; omega
      by_cases h125 : y = 125
      · have hx : qb s[q] = [92, 125] := by rw [HC.out, HCE 125 (by omega) h125]; rfl
        have hi : Lib.indexByte (⟨#[39, 92, 125, 10]⟩ : ByteArray).data.toList y.toUInt8 = 2 := by rw [h125]; decide
        have cI2 := cI wr
        rw [hi] at cI2
        obtain ⟨ap, np, cp, rfl⟩ := hp.shape
        have hp3 := hp.lay [92, 125] #[.int .u8 92, .int .u8 125] rfl
        have HX : Hid (qb s[q] = [92, 125]) := hx
        clear cI hx hi HCE h125 hp
        go_wp2_with fail
        refine cI2.mono ?_
        rintro e w1 ⟨rfl, rfl⟩
        go_wp2_with (first | (at_builtin; refine list_bytes rfl _ _ rfl hp3 rfl _ _ [92, 125] rfl (by simp) (by simp only [List.length_cons, List.length_nil]; omega) ?_))
        intro v2 W2 hp4
        have HP4 := HE.out _ HX.out W2 v2 hp4.bare
        have HP5 : Hid (Pk B w0 W2 v2 (L ++ 39 :: (s.data.toList.take (q + 1)).flatMap qb) []) := HP4
        obtain ⟨a2, n2, c2, rfl⟩ := hp4.shape
        clear hp4 hp3 cI2 HP4
        go_wp2_with fail
        go_roundw
        case rel => exact ⟨q + 1, by omega, by go_num, HP5.out⟩
        case measure => simp only [intOf]; omega
      by_cases h10 : y = 10
      · have hx : qb s[q] = [92, 110] := by rw [HC.out, HCE 10 (by omega) h10]; rfl
        have hi : Lib.indexByte (⟨#[39, 92, 125, 10]⟩ : ByteArray).data.toList y.toUInt8 = 3 := by rw [h10]; decide
        have cI2 := cI wr
        rw [hi] at cI2
        obtain ⟨ap, np, cp, rfl⟩ := hp.shape
        have hp3 := hp.lay [92, 110] #[.int .u8 92, .int .u8 110] rfl
        have HX : Hid (qb s[q] = [92, 110]) := hx
        clear cI hx hi HCE h10 hp
        go_wp2_with fail
        refine cI2.mono ?_
        rintro e w1 ⟨rfl, rfl⟩
        go_wp2_with (first | (at_builtin; refine list_bytes rfl _ _ rfl hp3 rfl _ _ [92, 110] rfl (by simp) (by simp only [List.length_cons, List.length_nil]; omega) ?_))
        intro v2 W2 hp4
        have HP4 := HE.out _ HX.out W2 v2 hp4.bare
        have HP5 : Hid (Pk B w0 W2 v2 (L ++ 39 :: (s.data.toList.take (q + 1)).flatMap qb) []) := HP4
        obtain ⟨a2, n2, c2, rfl⟩ := hp4.shape
        clear hp4 hp3 cI2 HP4
        go_wp2_with fail
        go_roundw
        case rel => exact ⟨q + 1, by omega, by go_num, HP5.out⟩
        case measure => simp only [intOf]; omega
      have hx : qb s[q] = [cc] := by
        rw [HC.out]
        have k1 : cc ≠ 39 := fun e => h39 (by rw [← hy, e]; rfl)
        have k2 : cc ≠ 92 := fun e => h92 (by rw [← hy, e]; rfl)
        have k3 : cc ≠ 125 := fun e => h125 (by rw [← hy, e]; rfl)
        have k4 : cc ≠ 10 := fun e => h10 (by rw [← hy, e]; rfl)
        unfold qb
        rw [if_neg k1, if_neg k2, if_neg k3, if_neg k4]
      have hi : Lib.indexByte (⟨#[39, 92, 125, 10]⟩ : ByteArray).data.toList y.toUInt8 = -1 := idx_no ⟨y, hy256⟩ h39 h92 h125 h10
      have cI2 := cI wr
      rw [hi] at cI2
      obtain ⟨ap, np, cp, rfl⟩ := hp.shape
      have hp3 := hp.lay [cc] #[.int .u8 (y : Int)] (by rw [← hy]; rfl)
      have HX : Hid (qb s[q] = [cc]) := hx
      clear cI hx hi HCE h39 h92 h125 h10 hp
      go_wp2_with fail
      refine cI2.mono ?_
      rintro e w1 ⟨rfl, rfl⟩
      go_wp2_with (first | (at_builtin; refine list_bytes rfl _ _ rfl hp3 rfl _ _ [cc] rfl (by simp) (by simp only [List.length_cons, List.length_nil]; omega) ?_))
      intro v2 W2 hp4
      have HP4 := HE.out _ HX.out W2 v2 hp4.bare
      have HP5 : Hid (Pk B w0 W2 v2 (L ++ 39 :: (s.data.toList.take (q + 1)).flatMap qb) []) := HP4
      obtain ⟨a2, n2, c2, rfl⟩ := hp4.shape
      clear hp4 hp3 cI2 HP4
      go_wp2_with fail
      go_roundw
      case rel => exact ⟨q + 1, by omega, by go_num, HP5.out⟩
      case measure => simp only [intOf]; omega
    · obtain rfl : q = s.size := by omega
      have e1 : s.data.toList.take s.size = s.data.toList := List.take_of_length_le (show s.data.toList.length ≤ s.data.size from Nat.le_of_eq Array.length_toList)
      rw [e1] at hp hlenq
      have hp3 := hp.lay [39] #[.int .u8 39] rfl
      have HEQ : Hid ((L ++ 39 :: s.data.toList.flatMap qb) ++ [39] = L ++ qt s) := by show _ = _; unfold qt; simp
      obtain ⟨M, hM⟩ : ∃ M, L ++ 39 :: s.data.toList.flatMap qb = M := ⟨_, rfl⟩
      rw [hM] at hp3 hlenq HEQ hp
      obtain ⟨ap, np, cp, rfl⟩ := hp.shape
      clear hp hfl hfl2 e1 hM
      go_wp2_with (first | (at_builtin; refine list_bytes rfl _ _ rfl hp3 rfl _ _ [39] rfl (by simp) (by simp only [List.length_cons, List.length_nil]; omega) ?_))
      intro v2 W2 hp4
      have HP4 : Hid (Pk B w0 W2 v2 (L ++ qt s) []) := by show Pk B w0 W2 v2 _ []; rw [← HEQ.out]; exact hp4.bare
      obtain ⟨a2, n2, c2, rfl⟩ := hp4.shape
      clear hp4 hp3
      go_wp2_with fail
      go_ret
      exact ⟨_, rfl, HP4.out⟩
end Go.Proofs.YtnoohlmlpijhaaaDoor.PTx

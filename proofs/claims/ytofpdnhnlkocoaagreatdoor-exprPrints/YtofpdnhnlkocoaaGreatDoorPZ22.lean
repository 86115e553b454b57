import Derived.LoopN
import Derived.LoopTactic
import Derived.Test.YtofpdnhnlkocoaaGreatDoorPZ04
import Derived.Test.YtofpdnhnlkocoaaGreatDoorPZ18
namespace Go.Proofs.YtofpdnhnlkocoaaGreatDoor.PTx
open Go.RowKit Go.Proofs.YtofpdnhnlkocoaaGreatDoor.Base Go.Proofs.YtofpdnhnlkocoaaGreatDoor.UBase Go.Proofs.YtofpdnhnlkocoaaGreatDoor.EPure Go.Proofs.YtofpdnhnlkocoaaGreatDoor.ETx Go.Proofs.YtofpdnhnlkocoaaGreatDoor.PPk
set_option linter.unusedVariables false
/-- A byte of a text as it is written. -/
def qb (c : UInt8) : List UInt8 := if c = 39 then [92, 39] else if c = 92 then [92, 92] else if c = 125 then [92, 125] else if c = 10 then [92, 110] else [c]
def qt (s : ByteArray) : List UInt8 := 39 :: (s.data.toList.flatMap qb ++ [39])
theorem qb_len (c : UInt8) : (qb c).length ≤ 2 := by
  unfold qb
  repeat' split
  all_goals simp
theorem fm_len (l : List UInt8) : (l.flatMap qb).length ≤ 2 * l.length := by
  induction l with
  | nil => simp
  | cons c l ih =>
    have := qb_len c
    simp only [List.flatMap_cons, List.length_append, List.length_cons]
    omega
theorem idx_no : ∀ c : Fin 256, c.1 ≠ 39 → c.1 ≠ 92 → c.1 ≠ 125 → c.1 ≠ 10 → Lib.indexByte [39, 92, 125, 10] c.1.toUInt8 = -1 := by
  set_option maxRecDepth 40000 in decide
set_option maxRecDepth 20000 in
set_option maxHeartbeats 1600000 in
theorem text_c {B : Nat} {w0 W : World} {v : Value} {L : List UInt8} {s : ByteArray} (h : Pk B w0 W v L []) (hl : L.length ≤ 100000000000) (hs : s.size ≤ 1000000000) :
    Calls Tryz.prog 71 #[v, .string s] W fun e W' => ∃ v', e = .returned v' ∧ Pk B w0 W' v' (L ++ qt s) [] := by
  have hp1 := h.lay [39] #[.int .u8 39] rfl
  obtain ⟨ao, no, co, rfl⟩ := h.shape
  clear h
  go_enter Tryz.func71, Tryz.ntmps71
  go_wp2_with (first | (at_builtin; refine list_bytes rfl _ _ rfl hp1 rfl _ _ [39] rfl (by simp) (by simp only [List.length_cons, List.length_nil]; omega) ?_))
  intro v1 W1 hp2
  have HP : Hid (Pk B w0 W1 v1 (L ++ [39]) []) := hp2.bare
  obtain ⟨a1, n1, c1, rfl⟩ := hp2.shape
  clear hp1 hp2
  go_wp2_with fail
  go_loopw [0, 12] (fun out ii wr => ∃ q : Nat, q ≤ s.size ∧ ii = .int .i64 q ∧ Pk B w0 wr out (L ++ 39 :: (s.data.toList.take q).flatMap qb) []) (fun _ ii _ => s.size - (intOf ii).toNat)
  case atStart => exact ⟨0, by omega, rfl, by simpa using HP.out⟩
  case round =>
    obtain ⟨q, hq, rfl, hp⟩ := hrel
    have hfl := fm_len (s.data.toList.take q)
    have hfl2 : (s.data.toList.take q).length ≤ q := by rw [List.length_take]; omega
    have hlenq : (L ++ 39 :: (s.data.toList.take q).flatMap qb).length ≤ 110000000000 := by simp only [List.length_append, List.length_cons]; omega
    by_cases hlt : q < s.size
    · have e1 : s.data.toList.take (q + 1) = s.data.toList.take q ++ [s[q]] := by
        rw [List.take_succ_eq_append_getElem (by simpa using hlt)]
        rfl
      have HE : Hid (∀ x, qb s[q] = x → ∀ w2 v2, Pk B w0 w2 v2 ((L ++ 39 :: (s.data.toList.take q).flatMap qb) ++ x) [] → Pk B w0 w2 v2 (L ++ 39 :: (s.data.toList.take (q + 1)).flatMap qb) []) := by
        intro x hx w2 v2 hp2
        rw [e1, List.flatMap_append]
        rw [← hx] at hp2
        simpa [List.append_assoc] using hp2
      obtain ⟨M, hM⟩ : ∃ M, L ++ 39 :: (s.data.toList.take q).flatMap qb = M := ⟨_, rfl⟩
      rw [hM] at hp hlenq HE
      obtain ⟨cc, hcc⟩ : ∃ cc : UInt8, s[q] = cc := ⟨_, rfl⟩
      have HC : Hid (s[q] = cc) := hcc
      obtain ⟨y, hy⟩ : ∃ y, cc.toNat = y := ⟨_, rfl⟩
      have hy256 : y < 256 := by rw [← hy]; exact UInt8.toNat_lt cc
      have HYC : Hid (cc.toNat = y) := hy
      have HCE : ∀ n : Nat, n < 256 → y = n → cc = UInt8.ofNat n := fun n hn e => by apply UInt8.toNat_inj.1; rw [UInt8.toNat_ofNat', hy]; omega
      have cI := fun W => Tryz.strings_IndexByte ⟨#[39, 92, 125, 10]⟩ (y : Int) W
      rw [Int.toNat_natCast] at cI
      clear hM e1 hfl hfl2
      by_cases h39 : y = 39
      · have hx : qb s[q] = [92, 39] := by rw [HC.out, HCE 39 (by omega) h39]; rfl
        have hi : Lib.indexByte (⟨#[39, 92, 125, 10]⟩ : ByteArray).data.toList y.toUInt8 = 0 := by rw [h39]; decide
        have cI2 := cI wr
        rw [hi] at cI2
        obtain ⟨ap, np, cp, rfl⟩ := hp.shape
        have hp3 := hp.lay [92, 39] #[.int .u8 92, .int .u8 39] rfl
        have HX : Hid (qb s[q] = [92, 39]) := hx
        clear cI hx hi HCE h39 hp
        go_wp2_with fail
        refine cI2.mono ?_
        rintro e w1 ⟨rfl, rfl⟩
        go_wp2_with (first | (at_builtin; refine list_bytes rfl _ _ rfl hp3 rfl _ _ [92, 39] rfl (by simp) (by simp only [List.length_cons, List.length_nil]; omega) ?_))
        intro v2 W2 hp4
        have HP4 := HE.out _ HX.out W2 v2 hp4.bare
        have HP5 : Hid (Pk B w0 W2 v2 (L ++ 39 :: (s.data.toList.take (q + 1)).flatMap qb) []) := HP4
        obtain ⟨a2, n2, c2, rfl⟩ := hp4.shape
        clear hp4 hp3 cI2 HP4
        go_wp2_with fail
        go_roundw
        case rel => exact ⟨q + 1, by omega, by go_num, HP5.out⟩
        case measure => simp only [intOf]; omega
      by_cases h92 : y = 92
      · have hx : qb s[q] = [92, 92] := by rw [HC.out, HCE 92 (by omega) h92]; rfl
        have hi : Lib.indexByte (⟨#[39, 92, 125, 10]⟩ : ByteArray).data.toList y.toUInt8 = 1 := by rw [h92]; decide
        have cI2 := cI wr
        rw [hi] at cI2
        obtain ⟨ap, np, cp, rfl⟩ := hp.shape
        have hp3 := hp.lay [92, 92] #[.int .u8 92, .int .u8 92] rfl
        have HX : Hid (qb s[q] = [92, 92]) := hx
        clear cI hx hi HCE h92 hp
        go_wp2_with fail
        refine cI2.mono ?_
        rintro e w1 ⟨rfl, rfl⟩
        go_wp2_with (first | (at_builtin; refine list_bytes rfl _ _ rfl hp3 rfl _ _ [92, 92] rfl (by simp) (by simp only [List.length_cons, List.length_nil]; omega) ?_))
        intro v2 W2 hp4
        have HP4 := HE.out _ HX.out W2 v2 hp4.bare
        have HP5 : Hid (Pk B w0 W2 v2 (L ++ 39 :: (s.data.toList.take (q + 1)).flatMap qb) []) := HP4
        obtain ⟨a2, n2, c2, rfl⟩ := hp4.shape
        clear hp4 hp3 cI2 HP4
        go_wp2_with fail
        go_roundw
        case rel => exact ⟨q + 1, by omega, by go_num, HP5.out⟩
        case measure => simp only [intOf]; omega
      by_cases h125 : y = 125
      · have hx : qb s[q] = [92, 125] := by rw [HC.out, HCE 125 (by omega) h125]; rfl
        have hi : Lib.indexByte (⟨#[39, 92, 125, 10]⟩ : ByteArray).data.toList y.toUInt8 = 2 := by rw [h125]; decide
        have cI2 := cI wr
        rw [hi] at cI2
        obtain ⟨ap, np, cp, rfl⟩ := hp.shape
        have hp3 := hp.lay [92, 125] #[.int .u8 92, .int .u8 125] rfl
        have HX : Hid (qb s[q] = [92, 125]) := hx
        clear cI hx hi HCE h125 hp
        go_wp2_with fail
        refine cI2.mono ?_
        rintro e w1 ⟨rfl, rfl⟩
        go_wp2_with (first | (at_builtin; refine list_bytes rfl _ _ rfl hp3 rfl _ _ [92, 125] rfl (by simp) (by simp only [List.length_cons, List.length_nil]; omega) ?_))
        intro v2 W2 hp4
        have HP4 := HE.out _ HX.out W2 v2 hp4.bare
        have HP5 : Hid (Pk B w0 W2 v2 (L ++ 39 :: (s.data.toList.take (q + 1)).flatMap qb) []) := HP4
        obtain ⟨a2, n2, c2, rfl⟩ := hp4.shape
        clear hp4 hp3 cI2 HP4
        go_wp2_with fail
        go_roundw
        case rel => exact ⟨q + 1, by omega, by go_num, HP5.out⟩
        case measure => simp only [intOf]; omega
      by_cases h10 : y = 10
      · have hx : qb s[q] = [92, 110] := by rw [HC.out, HCE 10 (by omega) h10]; rfl
        have hi : Lib.indexByte (⟨#[39, 92, 125, 10]⟩ : ByteArray).data.toList y.toUInt8 = 3 := by rw [h10]; decide
        have cI2 := cI wr
        rw [hi] at cI2
        obtain ⟨ap, np, cp, rfl⟩ := hp.shape
        have hp3 := hp.lay [92, 110] #[.int .u8 92, .int .u8 110] rfl
        have HX : Hid (qb s[q] = [92, 110]) := hx
        clear cI hx hi HCE h10 hp
        go_wp2_with fail
        refine cI2.mono ?_
        rintro e w1 ⟨rfl, rfl⟩
        go_wp2_with (first | (at_builtin; refine list_bytes rfl _ _ rfl hp3 rfl _ _ [92, 110] rfl (by simp) (by simp only [List.length_cons, List.length_nil]; omega) ?_))
        intro v2 W2 hp4
        have HP4 := HE.out _ HX.out W2 v2 hp4.bare
        have HP5 : Hid (Pk B w0 W2 v2 (L ++ 39 :: (s.data.toList.take (q + 1)).flatMap qb) []) := HP4
        obtain ⟨a2, n2, c2, rfl⟩ := hp4.shape
        clear hp4 hp3 cI2 HP4
        go_wp2_with fail
        go_roundw
        case rel => exact ⟨q + 1, by omega, by go_num, HP5.out⟩
        case measure => simp only [intOf]; omega
      have hx : qb s[q] = [cc] := by
        rw [HC.out]
        have k1 : cc ≠ 39 := fun e => h39 (by rw [← hy, e]; rfl)
        have k2 : cc ≠ 92 := fun e => h92 (by rw [← hy, e]; rfl)
        have k3 : cc ≠ 125 := fun e => h125 (by rw [← hy, e]; rfl)
        have k4 : cc ≠ 10 := fun e => h10 (by rw [← hy, e]; rfl)
        unfold qb
        rw [if_neg k1, if_neg k2, if_neg k3, if_neg k4]
      have hi : Lib.indexByte (⟨#[39, 92, 125, 10]⟩ : ByteArray).data.toList y.toUInt8 = -1 := idx_no ⟨y, hy256⟩ h39 h92 h125 h10
      have cI2 := cI wr
      rw [hi] at cI2
      obtain ⟨ap, np, cp, rfl⟩ := hp.shape
      have hp3 := hp.lay [cc] #[.int .u8 (y : Int)] (by rw [← hy]; rfl)
      have HX : Hid (qb s[q] = [cc]) := hx
      clear cI hx hi HCE h39 h92 h125 h10 hp
      go_wp2_with fail
      refine cI2.mono ?_
      rintro e w1 ⟨rfl, rfl⟩
      go_wp2_with (first | (at_builtin; refine list_bytes rfl _ _ rfl hp3 rfl _ _ [cc] rfl (by simp) (by simp only [List.length_cons, List.length_nil]; omega) ?_))
      intro v2 W2 hp4
      have HP4 := HE.out _ HX.out W2 v2 hp4.bare
      have HP5 : Hid (Pk B w0 W2 v2 (L ++ 39 :: (s.data.toList.take (q + 1)).flatMap qb) []) := HP4
      obtain ⟨a2, n2, c2, rfl⟩ := hp4.shape
      clear hp4 hp3 cI2 HP4
      go_wp2_with fail
      go_roundw
      case rel => exact ⟨q + 1, by omega, by go_num, HP5.out⟩
      case measure => simp only [intOf]; omega
    · obtain rfl : q = s.size := by omega
      have e1 : s.data.toList.take s.size = s.data.toList := List.take_of_length_le (show s.data.toList.length ≤ s.data.size from Nat.le_of_eq Array.length_toList)
      rw [e1] at hp hlenq
      have hp3 := hp.lay [39] #[.int .u8 39] rfl
      have HEQ : Hid ((L ++ 39 :: s.data.toList.flatMap qb) ++ [39] = L ++ qt s) := by show _ = _; unfold qt; simp
      obtain ⟨M, hM⟩ : ∃ M, L ++ 39 :: s.data.toList.flatMap qb = M := ⟨_, rfl⟩
      rw [hM] at hp3 hlenq HEQ hp
      obtain ⟨ap, np, cp, rfl⟩ := hp.shape
      clear hp hfl hfl2 e1 hM
      go_wp2_with (first | (at_builtin; refine list_bytes rfl _ _ rfl hp3 rfl _ _ [39] rfl (by simp) (by simp only [List.length_cons, List.length_nil]; omega) ?_))
      intro v2 W2 hp4
      have HP4 : Hid (Pk B w0 W2 v2 (L ++ qt s) []) := by show Pk B w0 W2 v2 _ []; rw [← HEQ.out]; exact hp4.bare
      obtain ⟨a2, n2, c2, rfl⟩ := hp4.shape
      clear hp4 hp3
      go_wp2_with fail
      go_ret
      exact ⟨_, rfl, HP4.out⟩
end Go.Proofs.YtofpdnhnlkocoaaGreatDoor.PTx
namespace Go.Proofs.YtofpdnhnlkocoaaGreatDoor.ELn
open Go.Proofs.YtofpdnhnlkocoaaGreatDoor.EPure
set_option linter.unusedVariables false
/-- The same, down to n. -/
def eqx : Nat → Ex → Ex → Bool
  | 0, _, _ => false
  | n + 1, .mk o i s l, .mk o' i' s' l' => ((o == o') && (i == i')) && ((s.data.toList == s'.data.toList) && ((l.length == l'.length) && (l.zip l').all fun p => eqx n p.1 p.2))
theorem zip_eq {n : Nat} (ih : ∀ x y, eqx n x y = true → x = y) : ∀ (l l' : List Ex), l.length = l'.length → ((l.zip l').all fun p => eqx n p.1 p.2) = true → l = l'
  | [], [], _, _ => rfl
  | x :: t, y :: t', h, ha => by
    simp only [List.zip_cons_cons, List.all_cons, Bool.and_eq_true] at ha
    rw [ih x y ha.1, zip_eq ih t t' (by simpa using h) ha.2]
theorem eqx_eq : ∀ n x y, eqx n x y = true → x = y
  | 0, _, _, h => by cases h
  | n + 1, .mk o i s l, .mk o' i' s' l', h => by
    simp only [eqx, Bool.and_eq_true, beq_iff_eq] at h
    obtain ⟨⟨rfl, rfl⟩, hs, hl, ha⟩ := h
    obtain rfl := zip_eq (eqx_eq n) l l' hl ha
    obtain rfl : s = s' := by cases s; cases s'; congr 1; exact Array.toList_inj.1 hs
    rfl
def s1 (s t : List UInt8) : List UInt8 := [97, 32] ++ s ++ [32, 98, 32] ++ t ++ [32, 99]
def s2 (s t : List UInt8) : List UInt8 := [40, 97, 32] ++ s ++ [32, 98, 41, 32] ++ t ++ [32, 99]
def s3 (s t : List UInt8) : List UInt8 := [97, 32] ++ s ++ [32, 40, 98, 32] ++ t ++ [32, 99, 41]
def va : Ex := .mk 6 0 ⟨#[97]⟩ []
def vb : Ex := .mk 6 0 ⟨#[98]⟩ []
def vc : Ex := .mk 6 0 ⟨#[99]⟩ []
def lt' (o o' : Int) : Ex := nd o' [nd o [va, vb], vc]
def rt' (o o' : Int) : Ex := nd o [va, nd o' [vb, vc]]
def isx (t : List UInt8) (x : Ex) : Bool := match prs ⟨t.toArray⟩ with
  | .ok y => eqx 4 y x
  | .error _ => false
def chk (k k' : Nat) (s t : List UInt8 × Int) : Bool := (decide (12 ≤ s.2) && isx (s1 s.1 t.1) (if k < k' then rt' s.2 t.2 else lt' s.2 t.2)) && (isx (s2 s.1 t.1) (lt' s.2 t.2) && isx (s3 s.1 t.1) (rt' s.2 t.2))
theorem t0_0 : (List.range 11).all (fun k' => (lvs.getD k' []).all fun t => chk 0 k' ([124, 124], 30) t) = true := by decide +kernel
theorem t1_0 : (List.range 11).all (fun k' => (lvs.getD k' []).all fun t => chk 1 k' ([38, 38], 29) t) = true := by decide +kernel
theorem t2_0 : (List.range 11).all (fun k' => (lvs.getD k' []).all fun t => chk 2 k' ([61, 61], 27) t) = true := by decide +kernel
theorem t2_1 : (List.range 11).all (fun k' => (lvs.getD k' []).all fun t => chk 2 k' ([33, 61], 28) t) = true := by decide +kernel
theorem t3_0 : (List.range 11).all (fun k' => (lvs.getD k' []).all fun t => chk 3 k' ([60], 23) t) = true := by decide +kernel
theorem t3_1 : (List.range 11).all (fun k' => (lvs.getD k' []).all fun t => chk 3 k' ([60, 61], 24) t) = true := by decide +kernel
theorem t3_2 : (List.range 11).all (fun k' => (lvs.getD k' []).all fun t => chk 3 k' ([62], 25) t) = true := by decide +kernel
theorem t3_3 : (List.range 11).all (fun k' => (lvs.getD k' []).all fun t => chk 3 k' ([62, 61], 26) t) = true := by decide +kernel
theorem t4_0 : (List.range 11).all (fun k' => (lvs.getD k' []).all fun t => chk 4 k' ([124], 22) t) = true := by decide +kernel
theorem t5_0 : (List.range 11).all (fun k' => (lvs.getD k' []).all fun t => chk 5 k' ([94], 21) t) = true := by decide +kernel
theorem t6_0 : (List.range 11).all (fun k' => (lvs.getD k' []).all fun t => chk 6 k' ([38], 20) t) = true := by decide +kernel
theorem t7_0 : (List.range 11).all (fun k' => (lvs.getD k' []).all fun t => chk 7 k' ([60, 60], 18) t) = true := by decide +kernel
theorem t7_1 : (List.range 11).all (fun k' => (lvs.getD k' []).all fun t => chk 7 k' ([62, 62], 19) t) = true := by decide +kernel
theorem t8_0 : (List.range 11).all (fun k' => (lvs.getD k' []).all fun t => chk 8 k' ([126], 17) t) = true := by decide +kernel
theorem t9_0 : (List.range 11).all (fun k' => (lvs.getD k' []).all fun t => chk 9 k' ([43], 15) t) = true := by decide +kernel
theorem t9_1 : (List.range 11).all (fun k' => (lvs.getD k' []).all fun t => chk 9 k' ([45], 16) t) = true := by decide +kernel
theorem t10_0 : (List.range 11).all (fun k' => (lvs.getD k' []).all fun t => chk 10 k' ([42], 12) t) = true := by decide +kernel
theorem t10_1 : (List.range 11).all (fun k' => (lvs.getD k' []).all fun t => chk 10 k' ([47], 13) t) = true := by decide +kernel
theorem t10_2 : (List.range 11).all (fun k' => (lvs.getD k' []).all fun t => chk 10 k' ([37], 14) t) = true := by decide +kernel
theorem both {k k' : Nat} {s t : List UInt8 × Int} (h : (List.range 11).all (fun k' => (lvs.getD k' []).all fun t => chk k k' s t) = true) (hk : k' < 11) (ht : t ∈ lvs.getD k' []) : chk k k' s t = true :=
  List.all_eq_true.1 (List.all_eq_true.1 h k' (List.mem_range.2 hk)) t ht
theorem all : ∀ {k : Nat}, k < 11 → ∀ {s : List UInt8 × Int}, s ∈ lvs.getD k [] → ∀ {k' : Nat}, k' < 11 → ∀ {t : List UInt8 × Int}, t ∈ lvs.getD k' [] → chk k k' s t = true := by
  intro k hk s hs k' hk' t ht
  match k, hk, hs with
  | 0, _, hs =>
    have hs : s ∈ ([([124, 124], 30)] : List (List UInt8 × Int)) := hs
    simp only [List.mem_cons, List.not_mem_nil, or_false] at hs
    subst hs; exact both t0_0 hk' ht
  | 1, _, hs =>
    have hs : s ∈ ([([38, 38], 29)] : List (List UInt8 × Int)) := hs
    simp only [List.mem_cons, List.not_mem_nil, or_false] at hs
    subst hs; exact both t1_0 hk' ht
  | 2, _, hs =>
    have hs : s ∈ ([([61, 61], 27), ([33, 61], 28)] : List (List UInt8 × Int)) := hs
    simp only [List.mem_cons, List.not_mem_nil, or_false] at hs
    rcases hs with rfl | rfl
    · exact both t2_0 hk' ht
    · exact both t2_1 hk' ht
  | 3, _, hs =>
    have hs : s ∈ ([([60], 23), ([60, 61], 24), ([62], 25), ([62, 61], 26)] : List (List UInt8 × Int)) := hs
    simp only [List.mem_cons, List.not_mem_nil, or_false] at hs
    rcases hs with rfl | rfl | rfl | rfl
    · exact both t3_0 hk' ht
    · exact both t3_1 hk' ht
    · exact both t3_2 hk' ht
    · exact both t3_3 hk' ht
  | 4, _, hs =>
    have hs : s ∈ ([([124], 22)] : List (List UInt8 × Int)) := hs
    simp only [List.mem_cons, List.not_mem_nil, or_false] at hs
    subst hs; exact both t4_0 hk' ht
  | 5, _, hs =>
    have hs : s ∈ ([([94], 21)] : List (List UInt8 × Int)) := hs
    simp only [List.mem_cons, List.not_mem_nil, or_false] at hs
    subst hs; exact both t5_0 hk' ht
  | 6, _, hs =>
    have hs : s ∈ ([([38], 20)] : List (List UInt8 × Int)) := hs
    simp only [List.mem_cons, List.not_mem_nil, or_false] at hs
    subst hs; exact both t6_0 hk' ht
  | 7, _, hs =>
    have hs : s ∈ ([([60, 60], 18), ([62, 62], 19)] : List (List UInt8 × Int)) := hs
    simp only [List.mem_cons, List.not_mem_nil, or_false] at hs
    rcases hs with rfl | rfl
    · exact both t7_0 hk' ht
    · exact both t7_1 hk' ht
  | 8, _, hs =>
    have hs : s ∈ ([([126], 17)] : List (List UInt8 × Int)) := hs
    simp only [List.mem_cons, List.not_mem_nil, or_false] at hs
    subst hs; exact both t8_0 hk' ht
  | 9, _, hs =>
    have hs : s ∈ ([([43], 15), ([45], 16)] : List (List UInt8 × Int)) := hs
    simp only [List.mem_cons, List.not_mem_nil, or_false] at hs
    rcases hs with rfl | rfl
    · exact both t9_0 hk' ht
    · exact both t9_1 hk' ht
  | 10, _, hs =>
    have hs : s ∈ ([([42], 12), ([47], 13), ([37], 14)] : List (List UInt8 × Int)) := hs
    simp only [List.mem_cons, List.not_mem_nil, or_false] at hs
    rcases hs with rfl | rfl | rfl
    · exact both t10_0 hk' ht
    · exact both t10_1 hk' ht
    · exact both t10_2 hk' ht
  | k + 11, h, _ => exact absurd h (by omega)
end Go.Proofs.YtofpdnhnlkocoaaGreatDoor.ELn
namespace Go.Proofs.YtofpdnhnlkocoaaGreatDoor.EBs
open Go.Proofs.YtofpdnhnlkocoaaGreatDoor.UBase Go.Proofs.YtofpdnhnlkocoaaGreatDoor.EPure Go.Proofs.YtofpdnhnlkocoaaGreatDoor.EDn
set_option linter.unusedVariables false
/-- t stands at i. -/
def St (s : ByteArray) (i : Nat) (t : List UInt8) : Prop := ∃ a b, s.data.toList = a ++ t ++ b ∧ a.length = i
theorem sz (s : ByteArray) : s.data.toList.length = s.size := Array.length_toList
theorem St.left {s : ByteArray} {i : Nat} {t u : List UInt8} (h : St s i (t ++ u)) : St s i t := by
  obtain ⟨a, b, h1, h2⟩ := h
  exact ⟨a, u ++ b, by rw [h1]; simp, h2⟩
theorem St.right {s : ByteArray} {i : Nat} {t u : List UInt8} (h : St s i (t ++ u)) : St s (i + t.length) u := by
  obtain ⟨a, b, h1, h2⟩ := h
  exact ⟨a ++ t, b, by rw [h1]; simp, by simp [h2]⟩
theorem St.tail {s : ByteArray} {i : Nat} {c : UInt8} {t : List UInt8} (h : St s i (c :: t)) : St s (i + 1) t := h.right (t := [c])
theorem St.le {s : ByteArray} {i : Nat} {t : List UInt8} (h : St s i t) : i + t.length ≤ s.size := by
  obtain ⟨a, b, h1, h2⟩ := h
  rw [← sz s, h1]
  simp; omega
theorem St.drop {s : ByteArray} {i : Nat} {t : List UInt8} (h : St s i t) : ∃ b, s.data.toList.drop i = t ++ b := by
  obtain ⟨a, b, h1, h2⟩ := h
  exact ⟨b, by rw [h1, List.append_assoc, List.drop_left' h2]⟩
theorem at_drop (s : ByteArray) (i : Nat) : at' s i = ((s.data.toList.drop i).headD 0).toNat := by
  by_cases h : i < s.size
  · rw [at_get s i h, List.drop_eq_getElem_cons (by rw [sz]; exact h)]
    simp [ByteArray.getElem_eq_getElem_data]
  · rw [at_out s i h, List.drop_eq_nil_of_le (by rw [sz]; omega)]
    rfl
theorem St.at {s : ByteArray} {i : Nat} {c : UInt8} {t : List UInt8} (h : St s i (c :: t)) : at' s i = c.toNat := by
  obtain ⟨b, hb⟩ := h.drop
  rw [at_drop, hb]; rfl
theorem St.lt {s : ByteArray} {i : Nat} {c : UInt8} {t : List UInt8} (h : St s i (c :: t)) : i < s.size := by
  have := h.le
  simp at this; omega
theorem skp_stop {p : Nat → Bool} {s : ByteArray} {i : Nat} (h : i < s.size → p (at' s i) = false) : skp p s i = i := by
  unfold skp
  cases hn : s.size - i with
  | zero => rfl
  | succ n =>
    rw [sk, if_neg]
    rintro ⟨h1, h2⟩
    rw [h h1] at h2; cases h2
theorem skp_step {p : Nat → Bool} {s : ByteArray} {i : Nat} (h : i < s.size) (hp : p (at' s i) = true) : skp p s i = skp p s (i + 1) := by
  unfold skp
  rw [show s.size - i = (s.size - (i + 1)) + 1 by omega, sk, if_pos ⟨h, hp⟩]
theorem skp_all {p : Nat → Bool} {s : ByteArray} : ∀ {t : List UInt8} {i : Nat}, St s i t → (∀ c ∈ t, p c.toNat = true) → (i + t.length < s.size → p (at' s (i + t.length)) = false) → skp p s i = i + t.length
  | [], i, _, _, h => by simpa using skp_stop (by simpa using h)
  | c :: t, i, hs, ha, h => by
    rw [skp_step hs.lt (by rw [hs.at]; exact ha c (by simp)), skp_all hs.tail (fun d hd => ha d (by simp [hd])) (by simpa [Nat.add_assoc, Nat.add_comm, Nat.add_left_comm] using h)]
    simp; omega
theorem adv_blank {s : ByteArray} {i r : Nat} {c : UInt8} {t : List UInt8} (h : St s i (c :: t)) (hc : isb c.toNat = true) : adv s i r = adv s (i + 1) r := by
  unfold adv
  rw [skp_step h.lt (by rw [h.at]; exact hc)]
/-- At i stands a token. -/
def Tok (s : ByteArray) (i : Nat) (t : Tk) (j : Nat) : Prop := isb (at' s i) = false ∧ scan s i = .ok (t, j) ∧ t.k ≠ 0
theorem Tok.adv {s : ByteArray} {i j : Nat} {t : Tk} (h : Tok s i t j) (r : Nat) : (adv s i r = .error (1002, t.a)) ∨ (r ≠ 512 ∧ adv s i r = .ok ⟨t, j, r + 1⟩) := by
  unfold EPure.adv
  rw [skp_stop (fun _ => h.1), h.2.1]
  simp only
  rw [if_neg h.2.2]
  by_cases hr : r = 512
  · left; rw [if_pos hr]
  · right; exact ⟨hr, by rw [if_neg hr]⟩
theorem Tok.ok {s : ByteArray} {i j : Nat} {t : Tk} (h : Tok s i t j) {r : Nat} {g : Sr} (hg : EPure.adv s i r = .ok g) : g = ⟨t, j, r + 1⟩ := by
  rcases h.adv r with e | ⟨_, e⟩
  · rw [e] at hg; cases hg
  · rw [e] at hg; injection hg with hg; exact hg.symm
theorem pre_eq (s : ByteArray) (i : Nat) (y : List UInt8) (hi : i ≤ s.size) : pre s i y = y.isPrefixOf (s.data.toList.drop i) := by
  unfold pre
  rw [Bool.eq_iff_iff]
  simp only [Bool.and_eq_true, decide_eq_true_eq, beq_iff_eq, List.isPrefixOf_iff_prefix]
  constructor
  · rintro ⟨h1, h2⟩
    rw [← h2]; exact List.take_prefix _ _
  · intro h
    have hl := h.length_le
    rw [List.length_drop, sz] at hl
    exact ⟨by omega, (List.prefix_iff_eq_take.1 h).symm⟩
/-- The sign at i, out of the bytes there. -/
def sg2 (l : List UInt8) : List (List UInt8) → Option (List UInt8)
  | [] => none
  | x :: r => if x.isPrefixOf l = true then some x else sg2 l r
theorem sgn_of {s : ByteArray} {i : Nat} (hi : i ≤ s.size) {x : List UInt8} : ∀ {L : List (List UInt8)}, sg2 (s.data.toList.drop i) L = some x → sgn s i L = .ok (⟨x.toArray⟩, i + x.length)
  | [], h => by cases h
  | y :: r, h => by
    rw [sg2] at h
    rw [sgn, pre_eq s i y hi]
    by_cases hp : y.isPrefixOf (s.data.toList.drop i) = true
    · rw [if_pos hp] at h ⊢
      injection h with h; subst h; rfl
    · rw [if_neg hp] at h ⊢
      exact sgn_of hi h
/-- A byte with which a sign begins. -/
def sgb (c : Nat) : Bool := !(isb c) && (!(c == 39) && (!(EPure.dig c) && !(EPure.let' c)))
theorem sign_tok {s : ByteArray} {i : Nat} {c : UInt8} {t x : List UInt8} (h : St s i (c :: t)) (hc : sgb c.toNat = true) (hx : ∀ b, sg2 (c :: t ++ b) signs = some x) : Tok s i ⟨4, ⟨x.toArray⟩, 0, i⟩ (i + x.length) := by
  simp only [sgb, Bool.and_eq_true, Bool.not_eq_true', beq_eq_false_iff_ne, ne_eq] at hc
  obtain ⟨h1, h2, h3, h4⟩ := hc
  have ha := h.at
  refine ⟨by rw [ha]; exact h1, ?_, by simp⟩
  unfold scan
  rw [if_neg (by have := h.lt; omega), ha, if_neg h2, if_neg (by intro h48; rw [h48] at h3; cases h3), if_neg (by rw [h3]; simp), if_neg (by rw [h4]; simp)]
  obtain ⟨b, hb⟩ := h.drop
  rw [sgn_of (by have := h.lt; omega) (by rw [hb]; exact hx b)]
theorem cut_st {s : ByteArray} {i : Nat} {t : List UInt8} (h : St s i t) : cut s i (i + t.length) = ⟨t.toArray⟩ := by
  obtain ⟨a, b, h1, h2⟩ := h
  have : (cut s i (i + t.length)).data.toList = t := by
    unfold cut
    rw [ByteArray.data_extract, Array.toList_extract, h1]
    simp [List.extract_eq_take_drop, List.drop_left' h2, List.append_assoc]
  cases hc : cut s i (i + t.length) with
  | mk d => rw [hc] at this; simp only at this; rw [← this]
theorem name_tok {s t : ByteArray} {i : Nat} (h : St s i t.data.toList) (hw : word t 95 = true) (hf : i + t.data.toList.length < s.size → wrd (at' s (i + t.data.toList.length)) = false) : Tok s i ⟨3, t, 0, i⟩ (i + t.data.toList.length) := by
  unfold word at hw
  simp only [Bool.and_eq_true, decide_eq_true_eq] at hw
  obtain ⟨h0, h32, hl, ha⟩ := hw
  have hall : ∀ c ∈ t.data.toList, wrd c.toNat = true := by
    intro c hc
    obtain ⟨k, hk, e⟩ := List.mem_iff_getElem.1 hc
    have hk' : k < t.size := by rw [← sz t]; exact hk
    have := ha k hk'
    rw [at_get t k hk'] at this
    have e2 : t[k] = c := by rw [← e]; simp [ByteArray.getElem_eq_getElem_data]
    rw [e2] at this
    unfold sign at this
    unfold wrd
    simpa [UBase.let', UBase.dig, EPure.let', EPure.dig] using this
  obtain ⟨c, l, hcl⟩ : ∃ c l, t.data.toList = c :: l := by
    cases hh : t.data.toList with
    | nil => have := sz t; rw [hh] at this; simp at this; omega
    | cons c l => exact ⟨c, l, rfl⟩
  have hc0 : at' t 0 = c.toNat := by rw [at_drop, List.drop_zero, hcl]; rfl
  have hsk := skp_all h hall hf
  have hat : at' s i = c.toNat := by rw [hcl] at h; exact h.at
  have hle : EPure.let' (at' s i) = true := by rw [hat, ← hc0]; simpa [UBase.let', EPure.let'] using hl
  have hlt : i < s.size := by rw [hcl] at h; exact h.lt
  have hbd : 97 ≤ at' s i ∧ at' s i ≤ 122 := by simpa [EPure.let'] using hle
  refine ⟨by unfold isb; simp; omega, ?_, by simp⟩
  unfold scan
  rw [if_neg (by omega), if_neg (by omega), if_neg (by omega), if_neg (by simp [EPure.dig]; omega), if_pos hle, hsk, if_pos (by rw [sz]; omega), cut_st h]
theorem num_tok {s : ByteArray} {i : Nat} {n : Int} (h0 : 0 ≤ n) (h1 : n ≤ 9223372036854775807) (h : St s i (Lib.itoa n)) (hf : i + (Lib.itoa n).length < s.size → EPure.dig (at' s (i + (Lib.itoa n).length)) = false) : Tok s i ⟨1, ⟨#[]⟩, n, i⟩ (i + (Lib.itoa n).length) := by
  rcases Int.lt_or_eq_of_le h0 with hp | rfl
  · obtain ⟨e1, e2⟩ := Nums.parse_itoa n (by omega) h1
    have hd : Lib.itoa n = Lib.decDigits n.toNat := by
      unfold Lib.itoa
      rw [if_neg (by omega)]
    have hpf := Nums.posForm_digits (N := n.toNat) (by omega)
    rw [← hd] at hpf
    obtain ⟨l, hl⟩ : ∃ l, Lib.itoa n = l := ⟨_, rfl⟩
    rw [hl] at h hf e1 e2 hpf ⊢
    cases l with
    | nil => cases hpf
    | cons c t =>
      simp only [Sums.posForm, Bool.and_eq_true, bne_iff_ne, ne_eq] at hpf
      have hall : ∀ d ∈ c :: t, EPure.dig d.toNat = true := fun d hd => List.all_eq_true.1 hpf.2 d hd
      have hat := h.at
      have hc := hall c (by simp)
      have hbd : 48 ≤ c.toNat ∧ c.toNat ≤ 57 := by simpa [EPure.dig] using hc
      have hsk := skp_all h hall hf
      refine ⟨by rw [hat]; unfold isb; simp; omega, ?_, by simp⟩
      unfold scan
      rw [if_neg (by have := h.lt; omega), hat, if_neg (by omega), if_neg hpf.1, if_pos hc, hsk, cut_st h, if_pos (by rw [Nums.bs_mk]; exact e2), Nums.bs_mk, e1]
  · have hz : Lib.itoa 0 = [48] := by decide +kernel
    rw [hz] at h ⊢
    have hat := h.at
    refine ⟨by rw [hat]; decide, ?_, by simp⟩
    unfold scan
    rw [if_neg (by have := h.lt; omega), hat, if_neg (by decide), if_pos (by decide)]
    rfl
end Go.Proofs.YtofpdnhnlkocoaaGreatDoor.EBs
namespace Go.Proofs.YtofpdnhnlkocoaaGreatDoor.QQu
open Go.ChangeShapes Go.WideShapes Go.ChangeAt Go.RowKit Go.Proofs.YtofpdnhnlkocoaaGreatDoor.Base Go.Proofs.YtofpdnhnlkocoaaGreatDoor.UBase Go.Proofs.YtofpdnhnlkocoaaGreatDoor.ETx Go.Proofs.YtofpdnhnlkocoaaGreatDoor.PTx
set_option linter.unusedVariables false
theorem info5 : (Tryz.prog.info? 5).map (fun i => (i.zero, i.size, i.bytes)) = some (some (.int .u8 0), 1, 1) := by kernel_rfl
theorem info_parts {t : TypeId} {z : Value} {s b : Nat} (h : (Tryz.prog.info? t).map (fun i => (i.zero, i.size, i.bytes)) = some (some z, s, b)) : ∃ i, Tryz.prog.info? t = some i ∧ i.zero = some z ∧ i.size = s ∧ i.bytes = b := by
  cases hi : Tryz.prog.info? t with
  | none => rw [hi] at h; cases h
  | some i =>
    rw [hi] at h
    simp only [Option.map_some, Option.some.injEq, Prod.mk.injEq] at h
    exact ⟨i, rfl, h.1, h.2.1, h.2.2⟩
/-- The cells of a new block. -/
theorem new_cells (w : World) (cs : List Value) (t : TypeId) : ∀ j u, cs[j]? = some u → (w.alloc (.cells cs.toArray t)).cell? ((⟨w.heap.size, 0, none⟩ : Addr).add j) = some u := by
  intro j u hu
  rw [add_none, Nat.zero_add]
  have h := heap_alloc_new w (.cells cs.toArray t)
  have e : (w.alloc (.cells cs.toArray t)).cell? ⟨w.heap.size, j, none⟩ = cs.toArray[j]? := by
    unfold World.cell?
    rw [h]
    rfl
  rw [e]
  simpa using hu
theorem own_snoc {w' : World} {B : Nat} {v : Value} {L M : List UInt8} (h : w'.ownsRow B 5 1 v (L.length + M.length) (Lib.byteCells L ++ Lib.byteCells M)) : Own w' B v (L ++ M) := by
  unfold Own
  rw [Lib.byteCells_append, List.length_append]
  exact h
theorem fm_snoc (s : ByteArray) {k : Nat} (h : k < s.size) : (s.data.toList.take (k + 1)).flatMap qb = (s.data.toList.take k).flatMap qb ++ qb s[k] := by
  have hl : k < s.data.toList.length := by rw [Array.length_toList]; exact h
  rw [List.take_succ_eq_append_getElem hl, List.flatMap_append]
  simp [ByteArray.getElem_eq_getElem_data]
set_option maxRecDepth 20000 in
set_option maxHeartbeats 3200000 in
theorem quoted_c (s : ByteArray) (hs : s.size ≤ 1000000000) (w : World) : Calls Tryz.prog 51 #[.string s] w fun e w' => e = .returned (.string ⟨(qt s).toArray⟩) ∧ Below w.heap.size w w' := by
  obtain ⟨i0, hi, hz0, hz1, hz2⟩ := info_parts info5
  have o0 : Own (w.alloc (.cells #[.int .u8 39] 5)) w.heap.size (.slice (some ⟨w.heap.size, 0, none⟩) 1 1) [39] := by
    refine ⟨rfl, .inr ⟨w.heap.size, 1, #[.int .u8 39], rfl, Nat.le_refl _, heap_alloc_new w _, Nat.le_refl _, by simp [maxLen], rfl, rfl⟩⟩
  have b0 : Below w.heap.size w (w.alloc (.cells #[.int .u8 39] 5)) := (Below.refl _ w).alloc (Nat.le_refl _) _
  have O0 : Hid (Own (w.alloc (.cells #[.int .u8 39] 5)) w.heap.size (.slice (some ⟨w.heap.size, 0, none⟩) 1 1) [39] ∧ Below w.heap.size w (w.alloc (.cells #[.int .u8 39] 5))) := ⟨o0, b0⟩
  clear o0 b0
  go_enter Tryz.func51, Tryz.ntmps51
  go_wp2_with fail
  go_loopw [3, 4] (fun v iv wr => ∃ (k : Nat) (L : List UInt8), iv = .int .i64 k ∧ k ≤ s.size ∧ Own wr w.heap.size v L ∧ L = 39 :: (s.data.toList.take k).flatMap qb ∧ Below w.heap.size w wr) (fun _ iv _ => s.size - (intOf iv).toNat)
  case atStart => exact ⟨0, [39], rfl, by omega, O0.out.1, by simp, O0.out.2⟩
  case round =>
    clear O0
    obtain ⟨k, L, rfl, hk, hown, hL, hb⟩ := hrel
    have hsz := hb.size
    have hLn : L.length ≤ 1 + 2 * k := by
      rw [hL, List.length_cons]
      have := fm_len (s.data.toList.take k)
      rw [List.length_take] at this
      omega
    have HL : Hid (L = 39 :: (s.data.toList.take k).flatMap qb) := hL
    clear hL
    by_cases hlt : k < s.size
    · have d : decide ((k : Int) < (s.size : Int)) = true := by simp; omega
      obtain ⟨c, hc⟩ : ∃ c, s[k]'hlt = c := ⟨_, rfl⟩
      have HC : Hid (39 :: (s.data.toList.take (k + 1)).flatMap qb = L ++ qb c) := by
        show _ = _
        rw [fm_snoc s hlt, hc, HL.out]
        rfl
      have hcn : (s[k]'hlt).toNat = c.toNat := by rw [hc]
      have HB : Hid (Below w.heap.size w wr) := hb
      have HOW : Hid (Own wr w.heap.size u3 L) := hown
      by_cases h39 : c = 39
      · subst h39
        have hcn' : (s[k]'hlt).toNat = 39 := by rw [hc]; rfl
        clear hcn hc
        have HQ : Hid (qb 39 = [92, 39]) := rfl
        go_wp2_with (first | (at_builtin; refine wpList_append_own _ rfl _ _ 60 rfl w.heap.size 5 i0 (.int .u8 0) 1 1 Tryz.underlying60 hi hz0 hz1 hz2 rfl (by decide) _ _ _ rfl (World.ownsRow.alloc hown _) ⟨_, 0, none⟩ 2 2 [.int .u8 92, .int .u8 39] rfl rfl (new_cells wr [.int .u8 92, .int .u8 39] 5) (by intro u hu; simp at hu; rcases hu with rfl | rfl <;> rfl) (by unfold maxLen; omega) (by omega) (by simp; omega) ?_))
        intro v' w2 hown' hgrow _
        have hb3 := (HB.out.alloc hsz (.cells ([.int .u8 92, .int .u8 39] : List Value).toArray 5)).grown hgrow (by simp; omega) (fun k hk => (World.ownsRow.lt HOW.out k hk).1)
        have ho : Own w2 w.heap.size v' (L ++ [92, 39]) := own_snoc (M := [92, 39]) hown'
        have HO : Hid (Own w2 w.heap.size v' (L ++ qb 39) ∧ Below w.heap.size w w2) := ⟨by rw [HQ.out]; exact ho, hb3⟩
        clear hown' hgrow hown hb ho hb3
        go_wp2_with fail
        go_roundw
        case rel => exact ⟨k + 1, L ++ qb 39, by go_num, by omega, HO.out.1, HC.out.symm, HO.out.2⟩
        case measure => simp only [intOf]; omega
      by_cases h92 : c = 92
      · subst h92
        have hcn' : (s[k]'hlt).toNat = 92 := by rw [hc]; rfl
        clear hcn hc h39
        have HQ : Hid (qb 92 = [92, 92]) := rfl
        go_wp2_with (first | (at_builtin; refine wpList_append_own _ rfl _ _ 60 rfl w.heap.size 5 i0 (.int .u8 0) 1 1 Tryz.underlying60 hi hz0 hz1 hz2 rfl (by decide) _ _ _ rfl (World.ownsRow.alloc hown _) ⟨_, 0, none⟩ 2 2 [.int .u8 92, .int .u8 92] rfl rfl (new_cells wr [.int .u8 92, .int .u8 92] 5) (by intro u hu; simp at hu; rcases hu with rfl | rfl <;> rfl) (by unfold maxLen; omega) (by omega) (by simp; omega) ?_))
        intro v' w2 hown' hgrow _
        have hb3 := (HB.out.alloc hsz (.cells ([.int .u8 92, .int .u8 92] : List Value).toArray 5)).grown hgrow (by simp; omega) (fun k hk => (World.ownsRow.lt HOW.out k hk).1)
        have ho : Own w2 w.heap.size v' (L ++ [92, 92]) := own_snoc (M := [92, 92]) hown'
        have HO : Hid (Own w2 w.heap.size v' (L ++ qb 92) ∧ Below w.heap.size w w2) := ⟨by rw [HQ.out]; exact ho, hb3⟩
        clear hown' hgrow hown hb ho hb3
        go_wp2_with fail
        go_roundw
        case rel => exact ⟨k + 1, L ++ qb 92, by go_num, by omega, HO.out.1, HC.out.symm, HO.out.2⟩
        case measure => simp only [intOf]; omega
      by_cases h125 : c = 125
      · subst h125
        have hcn' : (s[k]'hlt).toNat = 125 := by rw [hc]; rfl
        clear hcn hc h39 h92
        have HQ : Hid (qb 125 = [92, 125]) := rfl
        go_wp2_with (first | (at_builtin; refine wpList_append_own _ rfl _ _ 60 rfl w.heap.size 5 i0 (.int .u8 0) 1 1 Tryz.underlying60 hi hz0 hz1 hz2 rfl (by decide) _ _ _ rfl (World.ownsRow.alloc hown _) ⟨_, 0, none⟩ 2 2 [.int .u8 92, .int .u8 125] rfl rfl (new_cells wr [.int .u8 92, .int .u8 125] 5) (by intro u hu; simp at hu; rcases hu with rfl | rfl <;> rfl) (by unfold maxLen; omega) (by omega) (by simp; omega) ?_))
        intro v' w2 hown' hgrow _
        have hb3 := (HB.out.alloc hsz (.cells ([.int .u8 92, .int .u8 125] : List Value).toArray 5)).grown hgrow (by simp; omega) (fun k hk => (World.ownsRow.lt HOW.out k hk).1)
        have ho : Own w2 w.heap.size v' (L ++ [92, 125]) := own_snoc (M := [92, 125]) hown'
        have HO : Hid (Own w2 w.heap.size v' (L ++ qb 125) ∧ Below w.heap.size w w2) := ⟨by rw [HQ.out]; exact ho, hb3⟩
        clear hown' hgrow hown hb ho hb3
        go_wp2_with fail
        go_roundw
        case rel => exact ⟨k + 1, L ++ qb 125, by go_num, by omega, HO.out.1, HC.out.symm, HO.out.2⟩
        case measure => simp only [intOf]; omega
      have n39 : ((c.toNat : Int) == 39) = false := by simp; intro e; exact h39 (UInt8.toNat_inj.1 (by show c.toNat = _; simp only [UInt8.reduceToNat]; omega))
      have n92 : ((c.toNat : Int) == 92) = false := by simp; intro e; exact h92 (UInt8.toNat_inj.1 (by show c.toNat = _; simp only [UInt8.reduceToNat]; omega))
      have n125 : ((c.toNat : Int) == 125) = false := by simp; intro e; exact h125 (UInt8.toNat_inj.1 (by show c.toNat = _; simp only [UInt8.reduceToNat]; omega))
      by_cases h10 : c = 10
      · subst h10
        have hcn' : (s[k]'hlt).toNat = 10 := by rw [hc]; rfl
        clear hcn hc h39 h92 h125 n39 n92 n125
        have HQ : Hid (qb 10 = [92, 110]) := rfl
        go_wp2_with (first | (at_builtin; refine wpList_append_own _ rfl _ _ 60 rfl w.heap.size 5 i0 (.int .u8 0) 1 1 Tryz.underlying60 hi hz0 hz1 hz2 rfl (by decide) _ _ _ rfl (World.ownsRow.alloc hown _) ⟨_, 0, none⟩ 2 2 [.int .u8 92, .int .u8 110] rfl rfl (new_cells wr [.int .u8 92, .int .u8 110] 5) (by intro u hu; simp at hu; rcases hu with rfl | rfl <;> rfl) (by unfold maxLen; omega) (by omega) (by simp; omega) ?_))
        intro v' w2 hown' hgrow _
        have hb3 := (HB.out.alloc hsz (.cells ([.int .u8 92, .int .u8 110] : List Value).toArray 5)).grown hgrow (by simp; omega) (fun k hk => (World.ownsRow.lt HOW.out k hk).1)
        have ho : Own w2 w.heap.size v' (L ++ [92, 110]) := own_snoc (M := [92, 110]) hown'
        have HO : Hid (Own w2 w.heap.size v' (L ++ qb 10) ∧ Below w.heap.size w w2) := ⟨by rw [HQ.out]; exact ho, hb3⟩
        clear hown' hgrow hown hb ho hb3
        go_wp2_with fail
        go_roundw
        case rel => exact ⟨k + 1, L ++ qb 10, by go_num, by omega, HO.out.1, HC.out.symm, HO.out.2⟩
        case measure => simp only [intOf]; omega
      have n10 : ((c.toNat : Int) == 10) = false := by simp; intro e; exact h10 (UInt8.toNat_inj.1 (by show c.toNat = _; simp only [UInt8.reduceToNat]; omega))
      have hqe : qb c = [c] := by unfold qb; rw [if_neg h39, if_neg h92, if_neg h125, if_neg h10]
      clear h39 h92 h125 h10
      have HQ : Hid (qb c = [c]) := hqe
      go_wp2_with (first | (at_builtin; refine wpList_append_own _ rfl _ _ 60 rfl w.heap.size 5 i0 (.int .u8 0) 1 1 Tryz.underlying60 hi hz0 hz1 hz2 rfl (by decide) _ _ _ rfl (World.ownsRow.alloc hown _) ⟨_, 0, none⟩ 1 1 [.int .u8 (c.toNat : Int)] rfl rfl (new_cells wr [.int .u8 (c.toNat : Int)] 5) (by intro u hu; simp at hu; rcases hu with rfl <;> rfl) (by unfold maxLen; omega) (by omega) (by simp; omega) ?_))
      intro v' w2 hown' hgrow _
      have hb3 := (HB.out.alloc hsz (.cells ([.int .u8 (c.toNat : Int)] : List Value).toArray 5)).grown hgrow (by simp; omega) (fun k hk => (World.ownsRow.lt HOW.out k hk).1)
      have ho : Own w2 w.heap.size v' (L ++ [c]) := own_snoc (M := [c]) hown'
      have HO : Hid (Own w2 w.heap.size v' (L ++ qb c) ∧ Below w.heap.size w w2) := ⟨by rw [HQ.out]; exact ho, hb3⟩
      clear hown' hgrow hown hb ho hb3
      go_wp2_with fail
      go_roundw
      case rel => exact ⟨k + 1, L ++ qb c, by go_num, by omega, HO.out.1, HC.out.symm, HO.out.2⟩
      case measure => simp only [intOf]; omega
    · have d : decide ((k : Int) < (s.size : Int)) = false := by simp; omega
      have HE : Hid (L ++ [39] = qt s) := by
        show _ = _
        rw [HL.out, List.take_of_length_le (by rw [Array.length_toList]; show s.size ≤ k; omega)]
        rfl
      have HB : Hid (Below w.heap.size w wr) := hb
      have HOW : Hid (Own wr w.heap.size u3 L) := hown
      go_wp2_with (first | (at_builtin; refine wpList_append_own _ rfl _ _ 60 rfl w.heap.size 5 i0 (.int .u8 0) 1 1 Tryz.underlying60 hi hz0 hz1 hz2 rfl (by decide) _ _ _ rfl (World.ownsRow.alloc hown _) ⟨_, 0, none⟩ 1 1 [.int .u8 39] rfl rfl (new_cells wr [.int .u8 39] 5) (by intro u hu; simp at hu; rcases hu with rfl <;> rfl) (by unfold maxLen; omega) (by omega) (by simp; omega) ?_))
      intro v' w2 hown' hgrow _
      have hb3 := (HB.out.alloc hsz (.cells ([.int .u8 39] : List Value).toArray 5)).grown hgrow (by simp; omega) (fun k hk => (World.ownsRow.lt HOW.out k hk).1)
      have ho : Own w2 w.heap.size v' (L ++ [39]) := own_snoc (M := [39]) hown'
      rw [HE.out] at ho
      have hconv := own_conv ho
      obtain ⟨a4, c4, rfl, -, -⟩ := ho.len
      have HB3 : Hid (Below w.heap.size w w2) := hb3
      clear hown' hgrow hown hb ho hb3
      go_wp2_with fail
      go_ret
      exact ⟨rfl, HB3.out⟩
end Go.Proofs.YtofpdnhnlkocoaaGreatDoor.QQu

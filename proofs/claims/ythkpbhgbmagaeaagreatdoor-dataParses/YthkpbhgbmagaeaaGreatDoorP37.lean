import Derived.Deep.RegionHeld3
import Derived.Test.YthkpbhgbmagaeaaGreatDoorP09
import Derived.Test.YthkpbhgbmagaeaaGreatDoorP12
import Derived.Test.YthkpbhgbmagaeaaGreatDoorP16
import Derived.Test.YthkpbhgbmagaeaaGreatDoorP20
import Derived.Test.YthkpbhgbmagaeaaGreatDoorP28
import Derived.Test.YthkpbhgbmagaeaaGreatDoorP29
import Derived.Test.YthkpbhgbmagaeaaGreatDoorP36
namespace Go.Proofs.YthkpbhgbmagaeaaGreatDoor.RTex
open Go.RowKit Go.Proofs.YthkpbhgbmagaeaaGreatDoor.Base Go.Proofs.YthkpbhgbmagaeaaGreatDoor.UBase Go.Proofs.YthkpbhgbmagaeaaGreatDoor.Spec Go.Proofs.YthkpbhgbmagaeaaGreatDoor.Rdr Go.Proofs.YthkpbhgbmagaeaaGreatDoor.Byts Go.Proofs.YthkpbhgbmagaeaaGreatDoor.RRd Go.Proofs.YthkpbhgbmagaeaaGreatDoor.RWd Go.Proofs.YthkpbhgbmagaeaaGreatDoor.RHex Go.Proofs.YthkpbhgbmagaeaaGreatDoor.REsc Go.Proofs.YthkpbhgbmagaeaaGreatDoor.WPk Go.Proofs.YthkpbhgbmagaeaaGreatDoor.Text
set_option linter.unusedVariables false
/-- How much is left to read; nothing once a fault stands. -/
def fm (R n : Nat) (w : World) : Nat := match w.cell? ⟨R, 2, none⟩ with
 | some (.int _ f) => if f = 0 then n + 1 - plc R w else 0
 | _ => 0
theorem fm0 {w : World} {R : Nat} {s : ByteArray} {i p b : Nat} (h : Rr w R s i 0 p b) (n : Nat) : fm R n w = n + 1 - i := by
 unfold fm Rdr.plc
 rw [h.cells.2.2.1, h.cells.2.1]
 simp
theorem fm1 {w : World} {R : Nat} {s : ByteArray} {x : F} (h : Flt w R s x) (n : Nat) : fm R n w = 0 := by
 obtain ⟨hx, i, b, hr⟩ := h
 unfold fm
 rw [hr.cells.2.2.1]
 simp
 omega
def TxR (w : World) (R : Nat) (s : ByteArray) (b : Nat) (e : Ending) : Except F (ByteArray × Nat) → Prop
 | .ok (t, j) => e = .returned (.string t) ∧ Rr w R s j 0 0 b
 | .error x => (∃ t, e = .returned (.string t)) ∧ Flt w R s x
/-- Amid a text: the place, the bytes so far. -/
structure Tx (w : World) (R : Nat) (s : ByteArray) (b q : Nat) (wr : World) (out : Value) (L : List UInt8) : Prop where
 rr : Rr wr R s q 0 0 b
 own : Own wr w.heap.size out L
 nil : out = .slice none 0 0 ↔ L = []
 kr : Kr R w wr
 lt : R < w.heap.size
theorem Tx.drewN {w : World} {R : Nat} {s : ByteArray} {b q : Nat} {wr : World} {out : Value} {L : List UInt8} (h : Tx w R s b q wr out L) (n : Nat) : Tx w R s b q (wr.drewN n) out L :=
 ⟨h.rr.drewN n, own_keep h.own fun _ _ _ _ => rfl, h.nil, h.kr.drewN n, h.lt⟩
theorem Tx.pk {w : World} {R : Nat} {s : ByteArray} {b q : Nat} {wr : World} {out : Value} {L : List UInt8} (h : Tx w R s b q wr out L) : Pk w.heap.size wr wr out L [] :=
 Pk.start h.own h.kr.below.size h.nil
theorem Tx.more {w : World} {R : Nat} {s : ByteArray} {b q : Nat} {wr W' : World} {out v' : Value} {L L' : List UInt8} (h : Tx w R s b q wr out L) (hp : Pk w.heap.size wr W' v' L' []) : Tx w R s b q W' v' L' :=
 ⟨h.rr.keep (hp.bel.block R h.lt), hp.own, hp.nil, ⟨h.kr.below.trans (hp.bel.mono (Nat.le_of_lt h.lt)), fun k hk hs => (hp.bel.block k hs).trans (h.kr.other k hk hs)⟩, h.lt⟩
/-- Another place. -/
theorem Tx.go {w : World} {R : Nat} {s : ByteArray} {b q : Nat} {wr : World} {out : Value} {L : List UInt8} (h : Tx w R s b q wr out L) (j : Nat) (hj : j ≤ s.size + 16) : Tx w R s b j (wr.setCell ⟨R, 1, none⟩ (.int .i64 j)) out L :=
 ⟨h.rr.go j hj, own_kr h.own ((Kr.refl R wr).set 1 _) h.lt, h.nil, h.kr.set 1 _, h.lt⟩
theorem bs_cut (s : ByteArray) (q k : Nat) : (s.extract q (q + k)).data.toList = (s.data.toList.drop q).take k := by
 rw [ByteArray.data_extract, Array.toList_extract]
 simp
theorem raw_enc {s : ByteArray} {q : Nat} (h : q < s.size) (hl : len s q ≠ 0) : (s.extract q (q + len s q)).data.toList = Lib.encodeRune ((Utf8.decode s q).1 : Int) := by
 rw [bs_cut]
 by_cases ha : at' s q < 128
 ·rw [Dec.dec_small ha, RBt.enc_small ha]
  have h1 : len s q = 1 := by rw [len_eq]; unfold len4; rw [if_pos ha]
  rw [h1]
  obtain ⟨x, hx, e⟩ := RBt.drop_cons h
  rw [e, ← hx]
  simp
 ·rw [RBt.enc_good h hl (by omega)]
theorem rt_list (x : Nat) : (rt x).data.toList = Lib.encodeRune (x : Int) := by simp [rt]
set_option maxRecDepth 40000 in
set_option maxHeartbeats 12800000 in
theorem text_c {w : World} {R : Nat} {s : ByteArray} {i b : Nat} (hi : at' s i = 34) (h : Rr w R s i 0 0 b) :
  Calls Tryz.prog 30 #[ptr R] w fun e w' => TxR w' R s b e (txt s i) ∧ Kr R w w' := by
 have hRlt := h.lt
 have hsz := h.sz
 have hin : i < s.size := at_in (by omega)
 obtain ⟨U, hU⟩ : ∃ U, txt s i = U := ⟨_, rfl⟩
 rw [hU]
 obtain ⟨T, hT⟩ : ∃ T, txl s (s.size + 1) (i + 1) [] = T := ⟨_, rfl⟩
 have HU : Hid (U = txd i T) := by
  show _ = _
  rw [← hU, txt_is hi, hT]
 obtain ⟨k0, k1, k2, -, -⟩ := h.cells
 have f1 := h.free 1
 have h1 : Tx w R s b (i + 1) (w.setCell ⟨R, 1, none⟩ (.int .i64 ((i : Int) + 1))) (.slice none 0 0) [] := by
  have := (Tx.mk h (Own.nil w w.heap.size) (by simp) (Kr.refl R w) hRlt : Tx w R s b i w (.slice none 0 0) []).go (i + 1) (by omega)
  rwa [show ((i + 1 : Nat) : Int) = (i : Int) + 1 from by omega] at this
 have HT : Hid (txl s (s.size + 1) (i + 1) [] = T) := hT
 clear hU hT h hi
 unfold ptr
 go_enter Tryz.func30, Tryz.ntmps30
 go_wp2_with fail
 generalize w.setCell ⟨R, 1, none⟩ (.int .i64 ((i : Int) + 1)) = W0 at *
 clear k0 k1 k2 f1
 go_loopw [4, 5] (fun out kv wr => (∃ q f L, q ≤ s.size ∧ L.length ≤ 4 * q ∧ Tx w R s b q wr out L ∧ txl s f q L = T ∧ s.size < q + f) ∨ (∃ x L, T = .error x ∧ Flt wr R s x ∧ Own wr w.heap.size out L ∧ Kr R w wr)) (fun _ _ wr => fm R s.size wr)
 case atStart => exact .inl ⟨i + 1, s.size + 1, [], by omega, by simp, h1, HT.out, by omega⟩
 case round =>
  clear h1 HT
  rcases hrel with ⟨q, f, L, hq, hlen, hx, htx, hf⟩ | ⟨⟨x, pl⟩, L, hTe, hfl, hown, hk⟩
  ·obtain ⟨f, rfl⟩ : ∃ f', f = f' + 1 := ⟨f - 1, by omega⟩
   have HS : Hid (T = if at' s q = 34 then .ok (L, q + 1) else txk s f L (chr s q)) := by
    show _ = _
    rw [← htx]
    exact txl_step s f q L
   have HM : Hid (fm R s.size wr = s.size + 1 - q) := fm0 hx.rr _
   clear htx
   obtain ⟨k0, k1, k2, -, -⟩ := hx.rr.cells
   by_cases hend : q < s.size
   ·obtain ⟨y, hy⟩ : ∃ y, (s[q]'hend).toNat = y := ⟨_, rfl⟩
    have hya : at' s q = y := by rw [← hy]; exact at_get s q hend
    have hy256 : y < 256 := by rw [← hya]; exact at_lt s q
    have d0 : decide (s.size ≤ q) = false := decide_eq_false (by omega)
    rw [hya] at HS
    by_cases h32 : y < 32
    ·have d1 : decide ((y : Int) < 32) = true := decide_eq_true (by omega)
     have HU2 : Hid (U = .error (600, q)) := by
      show _ = _
      rw [HU.out, HS.out, if_neg (by omega)]
      have : chr s q = .error (600, q) := by unfold chr; rw [hya, if_neg (by omega), if_pos (.inl h32)]
      rw [this]
      rfl
     clear HU HS hya
     go_wp2_with fail
     go_quiet (fail)
     have hx2 := hx.drewN nq
     have hcF := fail_first hx2.rr 600 q (by omega) (by omega)
     unfold ptr at hcF
     go_wp2_with (first | (go_at_call 16; refine hcF.mono ?_; rintro e w' ⟨rfl, hF, hkF⟩; obtain ⟨z0, z1, z2, -, -⟩ := hF.cells; have hcv := own_conv (own_kr hx2.own hkF hRlt)))
     go_ret
     rw [HU2.out]
     exact ⟨⟨⟨_, rfl⟩, by simp, _, _, hF⟩, hx2.kr.trans hkF⟩
    ·have d1 : decide ((y : Int) < 32) = false := decide_eq_false (by omega)
     by_cases h34 : y = 34
     ·have e34 : ((y : Int) == 34) = true := by simp [h34]
      have HU2 : Hid (U = if 4096 < L.length then .error (605, i) else .ok (⟨L.toArray⟩, q + 1)) := by
       show _ = _
       rw [HU.out, HS.out, if_pos h34]
       rfl
      clear HU HS hya h34
      go_wp2_with fail
      go_quiet (fail)
      have hx2 := hx.drewN nq
      clear hx k0 k1 k2
      generalize wr.drewN nq = W1 at *
      obtain ⟨k0, k1, k2, -, -⟩ := hx2.rr.cells
      go_wp2_with fail
      go_quiet (fail)
      have hx3 := hx2.drewN nq
      have hx4 := hx3.go (q + 1) (by omega)
      have f1 := hx2.rr.free 1
      rw [show ((q + 1 : Nat) : Int) = (q : Int) + 1 from by omega] at hx4
      have hcv := own_conv hx4.own
      have hcF := fail_first hx4.rr 605 i (by omega) (by omega)
      unfold ptr at hcF
      obtain ⟨a, cap, rfl, hc1, hc2⟩ := hx4.own.len
      by_cases hl : 4096 < L.length
      ·rw [if_pos hl] at HU2
       have dl : decide ((4096 : Int) < (L.length : Int)) = true := decide_eq_true (by omega)
       have HX4 : Hid (Tx w R s b (q + 1) ((W1.drewN nq).setCell ⟨R, 1, none⟩ (.int .i64 ((q : Int) + 1))) (.slice a L.length cap) L) := hx4
       clear hx2 hx3 hx4
       go_wp2_with (first | (go_at_call 16; refine hcF.mono ?_; rintro e w' ⟨rfl, hF, hkF⟩; have hcv2 := own_conv (own_kr HX4.out.own hkF hRlt)))
       go_ret
       rw [HU2.out]
       exact ⟨⟨⟨_, rfl⟩, by simp, _, _, hF⟩, HX4.out.kr.trans hkF⟩
      ·rw [if_neg hl] at HU2
       have dl : decide ((4096 : Int) < (L.length : Int)) = false := decide_eq_false (by omega)
       have HX4 : Hid (Tx w R s b (q + 1) ((W1.drewN nq).setCell ⟨R, 1, none⟩ (.int .i64 ((q : Int) + 1))) (.slice a L.length cap) L) := hx4
       clear hx2 hx3 hx4
       go_wp2_with fail
       go_ret
       rw [HU2.out]
       exact ⟨⟨rfl, HX4.out.rr⟩, HX4.out.kr⟩
     ·have e34 : ((y : Int) == 34) = false := by simp; omega
      rw [if_neg h34] at HS
      go_wp2_with fail
      go_quiet (fail)
      have hx2 := hx.drewN nq
      clear hx k0 k1 k2
      generalize wr.drewN nq = W1 at *
      obtain ⟨k0, k1, k2, -, -⟩ := hx2.rr.cells
      go_wp2_with fail
      go_quiet (fail)
      have hx3 := hx2.drewN nq
      clear hx2 k0 k1 k2
      generalize W1.drewN nq = W2 at *
      obtain ⟨k0, k1, k2, -, -⟩ := hx3.rr.cells
      by_cases h92 : y = 92
      ·have e92 : ((y : Int) == 92) = true := by simp [h92]
       have hch : chr s q = esc s q := by unfold chr; rw [hya, if_pos h92]
       rw [hch] at HS
       go_wp2_with fail
       go_quiet (fail)
       have hx4 := hx3.drewN nq
       clear hx3 k0 k1 k2 hch h92 h34 e92 e34
       generalize W2.drewN nq = W3 at *
       have cE := REs2.escape_c hend hx4.rr
       unfold ptr at cE
       obtain ⟨X, hX⟩ : ∃ X, esc s q = X := ⟨_, rfl⟩
       rw [hX] at cE HS
       have HX : Hid (esc s q = X) := hX
       clear hX
       cases X with
       | error x =>
        have HTe : Hid (T = .error x) := HS.out
        go_wp2_with fail
        refine cE.mono ?_
        rintro e w5 ⟨⟨rfl, hfl⟩, hk5⟩
        have hp5 := Pk.start (own_kr hx4.own hk5 hRlt) (Nat.le_trans hx4.kr.below.size hk5.below.size) hx4.nil
        clear cE
        go_wp2_with (first | (at_builtin; refine list_text rfl _ _ rfl hp5 rfl ⟨#[]⟩ rfl (by show _ + 0 ≤ _; omega) ?_))
        intro v6 W6 hp6
        clear hp5
        have hk6 : Kr R w W6 := ⟨(hx4.kr.trans hk5).below.trans (hp6.bel.mono (Nat.le_of_lt hRlt)), fun k hk hs => (hp6.bel.block k hs).trans ((hx4.kr.trans hk5).other k hk hs)⟩
        have hf6 : Flt W6 R s x := by
         obtain ⟨hne, j, b', hr⟩ := hfl
         exact ⟨hne, j, b', hr.keep (hp6.bel.block R hRlt)⟩
        have HO : Hid (∃ L', Own W6 w.heap.size v6 L') := ⟨_, hp6.own⟩
        clear hp6 hfl
        go_wp2_with fail
        go_roundw
        case rel =>
         obtain ⟨L', ho⟩ := HO.out
         exact .inr ⟨x, L', HTe.out, hf6, ho, hk6⟩
        case measure =>
         show fm R s.size W6 < fm R s.size wr
         rw [fm1 hf6, HM.out]
         omega
       | ok z =>
        obtain ⟨x, j⟩ := z
        have hinj := esc_in hend HX.out
        have HTe : Hid (T = txl s f j (L ++ Lib.encodeRune (x : Int))) := HS.out
        have hel := enc_len (x : Int)
        go_wp2_with fail
        refine cE.mono ?_
        rintro e w5 ⟨⟨rfl, hr5⟩, hk5⟩
        have hx5 : Tx w R s b j w5 u4 L := ⟨hr5, own_kr hx4.own hk5 hRlt, hx4.nil, hx4.kr.trans hk5, hRlt⟩
        have hp5 := hx5.pk
        have hrt : (rt x).size ≤ 4 := by rw [← size_list, rt_list]; exact hel
        clear cE
        go_wp2_with (first | (at_builtin; refine list_text rfl _ _ rfl hp5 rfl (rt x) rfl (by omega) ?_))
        intro v6 W6 hp6
        clear hp5
        have hx6 := hx5.more hp6
        rw [rt_list] at hx6
        clear hp6
        go_wp2_with fail
        go_roundw
        case rel => exact .inl ⟨j, f, _, hinj.2.1, by rw [List.length_append]; omega, hx6, HTe.out.symm, by omega⟩
        case measure =>
         show fm R s.size W6 < fm R s.size wr
         rw [fm0 hx6.rr, HM.out]
         omega
      ·have e92 : ((y : Int) == 92) = false := by simp; omega
       have hch : chr s q = if len s q = 0 then .error (600, q) else .ok ((Utf8.decode s q).1, q + len s q) := by
        unfold chr
        rw [hya, if_neg h92]
        by_cases h0 : len s q = 0
        ·rw [if_pos (.inr h0), if_pos h0]
        ·rw [if_neg (by omega), if_neg h0]
       rw [hch] at HS
       go_wp2_with fail
       go_quiet (fail)
       have hx4 := hx3.drewN nq
       clear hx3 k0 k1 k2 hch h92 h34 e92 e34
       generalize W2.drewN nq = W3 at *
       obtain ⟨k0, k1, k2, -, -⟩ := hx4.rr.cells
       have cL := fun W => ULength.length_c s q hend (by omega) W
       have hinl := len_in hend
       have HRE : Hid (len s q ≠ 0 → (s.extract q (q + len s q)).data.toList = Lib.encodeRune ((Utf8.decode s q).1 : Int)) := fun hh => raw_enc hend hh
       obtain ⟨k, hk⟩ : ∃ k, len s q = k := ⟨_, rfl⟩
       rw [hk] at cL HS hinl HRE
       clear hk
       go_wp2_with fail
       go_quiet (first | (go_at_call 45; exact Calls.quiet_of_same (cL _)))
       have hx := hx4.drewN nq
       clear hx4 k0 k1 k2 cL
       generalize W3.drewN nq = W4 at *
       obtain ⟨k0, k1, k2, -, -⟩ := hx.rr.cells
       by_cases hk0 : k = 0
       ·have e0 : ((k : Int) == 0) = true := by simp [hk0]
        have HU2 : Hid (U = .error (600, q)) := by
         show _ = _
         rw [HU.out, HS.out, if_pos hk0]
         rfl
        have hcF := fail_first hx.rr 600 q (by omega) (by omega)
        unfold ptr at hcF
        clear hk0 HU HS HRE
        go_wp2_with (first | (go_at_call 16; refine hcF.mono ?_; rintro e w' ⟨rfl, hF, hkF⟩; obtain ⟨z0, z1, z2, -, -⟩ := hF.cells; have hcv := own_conv (own_kr hx.own hkF hRlt)))
        go_ret
        rw [HU2.out]
        exact ⟨⟨⟨_, rfl⟩, by simp, _, _, hF⟩, hx.kr.trans hkF⟩
       ·have e0 : ((k : Int) == 0) = false := by simp; omega
        rw [if_neg hk0] at HS
        have HTe : Hid (T = txl s f (q + k) (L ++ (s.extract q (q + k)).data.toList)) := by
         show _ = _
         rw [HS.out, HRE.out hk0]
         rfl
        have hxs : (s.extract q (q + k)).size = k := by rw [ByteArray.size_extract]; omega
        have hk4 : k ≤ 4 := by
         rw [← hxs, ← size_list, HRE.out hk0]
         exact enc_len _
        have b1 : (0 : Int) ≤ (q : Int) + (k : Int) := by omega
        have b2 : (q : Int) + (k : Int) ≤ (s.size : Int) := by omega
        have b3 : (0 : Int) ≤ (q : Int) := by omega
        have b4 : (q : Int) ≤ (q : Int) + (k : Int) := by omega
        have b5 : IntKind.i64.wrap ((q : Int) + (k : Int)) = (q : Int) + (k : Int) := by rw [IntKind.wrap_i64]; omega
        have hnat : ((q : Int) + (k : Int)).toNat = q + k := by omega
        clear HRE HS
        have hq := hx.pk.drew
        go_wp2_with fail
        go_region_held3 (fun w' => w'.cell? ⟨R, 0, none⟩ = some (.string s) ∧ w'.cell? ⟨R, 1, none⟩ = some (.int .i64 (q : Int))) (go_keep) (first
         | (refine step_text (by rfl) _ _ (by rfl) hq (by rfl) (s.extract q (q + k)) (by rfl) (by omega) ?_; clear hq; intro vv WW hq; obtain ⟨y0, y1, y2, -, -⟩ := (hx.more hq).rr.cells)
         | fail)
        have hx5 := hx.more hq
        have hx6 := hx5.go (q + k) (by omega)
        rw [show ((q + k : Nat) : Int) = (q : Int) + (k : Int) from by omega] at hx6
        have f5 := hx5.rr.free 1
        have HX6 : Hid (Tx w R s b (q + k) (WW.setCell ⟨R, 1, none⟩ (.int .i64 ((q : Int) + (k : Int)))) vv (L ++ (s.extract q (q + k)).data.toList)) := hx6
        have HL : Hid ((L ++ (s.extract q (q + k)).data.toList).length ≤ 4 * (q + k)) := by
         show _ ≤ _
         rw [List.length_append, size_list]
         omega
        obtain ⟨ao, no, co, rfl⟩ := hq.shape
        clear hq hx hx5 hx6 k0 k1 k2
        go_wp2_with fail
        go_roundw
        case rel => exact .inl ⟨q + k, f, _, by omega, HL.out, HX6.out, HTe.out.symm, by omega⟩
        case measure =>
         show fm R s.size (WW.setCell ⟨R, 1, none⟩ (.int .i64 ((q : Int) + (k : Int)))) < fm R s.size wr
         rw [fm0 HX6.out.rr, HM.out]
         omega
   ·have d0 : decide (s.size ≤ q) = true := decide_eq_true (by omega)
    have HU2 : Hid (U = .error (600, q)) := by
     show _ = _
     rw [HU.out, HS.out, at_out s q hend, if_neg (by omega)]
     have : chr s q = .error (600, q) := by unfold chr; rw [at_out s q hend]; rfl
     rw [this]
     rfl
    clear HU HS
    go_wp2_with fail
    go_quiet (fail)
    have hx2 := hx.drewN nq
    have hcF := fail_first hx2.rr 600 q (by omega) (by omega)
    unfold ptr at hcF
    go_wp2_with (first | (go_at_call 16; refine hcF.mono ?_; rintro e w' ⟨rfl, hF, hkF⟩; obtain ⟨z0, z1, z2, -, -⟩ := hF.cells; have hcv := own_conv (own_kr hx2.own hkF hRlt)))
    go_ret
    rw [HU2.out]
    exact ⟨⟨⟨_, rfl⟩, by simp, _, _, hF⟩, hx2.kr.trans hkF⟩
  ·have HFl : Hid (Flt wr R s (x, pl)) := hfl
   obtain ⟨hne, j, b', hr⟩ := hfl
   obtain ⟨k0, k1, k2, -, -⟩ := hr.cells
   have hcv := own_conv hown
   have e0 : ((x : Int) == 0) = false := by simp; omega
   have HU2 : Hid (U = .error (x, pl)) := by
    show _ = _
    rw [HU.out, hTe]
    rfl
   clear hTe HU hr hown
   go_wp2_with fail
   go_ret
   rw [HU2.out]
   exact ⟨⟨⟨_, rfl⟩, HFl.out⟩, hk⟩
end Go.Proofs.YthkpbhgbmagaeaaGreatDoor.RTex
namespace Go.Proofs.YthkpbhgbmagaeaaGreatDoor.RSt
open Go.RowKit Go.Proofs.YthkpbhgbmagaeaaGreatDoor.Base Go.Proofs.YthkpbhgbmagaeaaGreatDoor.UBase Go.Proofs.YthkpbhgbmagaeaaGreatDoor.Spec Go.Proofs.YthkpbhgbmagaeaaGreatDoor.Rdr Go.Proofs.YthkpbhgbmagaeaaGreatDoor.Own Go.Proofs.YthkpbhgbmagaeaaGreatDoor.RRd Go.Proofs.YthkpbhgbmagaeaaGreatDoor.RWd
set_option linter.unusedVariables false
/-- A value that is read, in memory of its own; beside a fault some value. -/
def RvR (w w' : World) (R : Nat) (s : ByteArray) (m : Nat) (e : Ending) : Except F (C × Nat × Nat) → Prop
 | .ok (c, j, b') => (∃ u, e = .returned u ∧ Fs w' m (Rg w.heap.size w'.heap.size) u c) ∧ Rr w' R s j 0 0 b'
 | .error x => (∃ k bo x t an ln cn al ll cl, e = .returned (.agg #[.int .i64 k, .bool bo, .int .i64 x, .string t, .slice an ln cn, .slice al ll cl])) ∧ Flt w' R s x
def RVs (n d m : Nat) : Prop := ∀ (w : World) (R : Nat) (s : ByteArray) (i b : Nat), i ≤ s.size → Rr w R s i 0 0 b →
 Calls Tryz.prog 14 #[ptr R, .int .i64 d] w fun e w' => RvR w w' R s m e (vl s n i b) ∧ Kr R w w'
end Go.Proofs.YthkpbhgbmagaeaaGreatDoor.RSt
namespace Go.Proofs.YthkpbhgbmagaeaaGreatDoor.RPar
open Go.RowKit Go.Proofs.YthkpbhgbmagaeaaGreatDoor.Base Go.Proofs.YthkpbhgbmagaeaaGreatDoor.UBase Go.Proofs.YthkpbhgbmagaeaaGreatDoor.Spec Go.Proofs.YthkpbhgbmagaeaaGreatDoor.Rdr Go.Proofs.YthkpbhgbmagaeaaGreatDoor.Own Go.Proofs.YthkpbhgbmagaeaaGreatDoor.Prs Go.Proofs.YthkpbhgbmagaeaaGreatDoor.RRd Go.Proofs.YthkpbhgbmagaeaaGreatDoor.RWd Go.Proofs.YthkpbhgbmagaeaaGreatDoor.RSt
set_option linter.unusedVariables false
set_option maxRecDepth 20000 in
set_option maxHeartbeats 1600000 in
theorem long_c {a : Option Addr} {cap : Nat} {w : World} {s : ByteArray} (hs : ¬ s.size ≤ 65536) :
  Calls Tryz.prog 6 #[.slice a s.size cap] w (Pout w (prs s)) := by
 have e : prs s = .error (605, 0) := by rw [prs, if_pos (by omega)]
 rw [e]
 have hlt : (65536 : Int) < s.size := by omega
 go_enter Tryz.func6, Tryz.ntmps6
 go_wp2_with fail
 refine bodyPost_ret (v := .tuple #[.agg #[.int .i64 0, .bool false, .int .i64 0, .string ⟨#[]⟩, .slice none 0 0, .slice none 0 0], .int .i64 0, .int .i64 605]) (by simp [results, Tryz.results6, go_sem]) rfl ?_
 exact ⟨(Below.refl _ w).alloc (Nat.le_refl _) _, rfl⟩
set_option maxRecDepth 20000 in
set_option maxHeartbeats 3200000 in
theorem short_c {a : Option Addr} {cap : Nat} {w : World} {s : ByteArray} (hv : RVs 24 1 24) (hs : s.size ≤ 65536) (hcv : ∀ w', Below w.heap.size w w' → (convert 22 9 (.slice a s.size cap)).run Tryz.prog w' = .ok (.string s) w') :
  Calls Tryz.prog 6 #[.slice a s.size cap] w (Pout w (prs s)) := by
 have hlt : ¬ (65536 : Int) < s.size := by omega
 obtain ⟨U, hU⟩ : ∃ U, prs s = U := ⟨_, rfl⟩
 rw [hU]
 rw [prs, if_neg (by omega)] at hU
 have HU : Hid (_ = U) := hU
 obtain ⟨W0, hW0⟩ : ∃ W0, w.alloc (.cells #[.int .i64 0, .bool false, .int .i64 0, .string ⟨#[]⟩, .slice none 0 0, .slice none 0 0] 27) = W0 := ⟨_, rfl⟩
 have b0 : Below w.heap.size w W0 := by rw [← hW0]; exact (Below.refl _ w).alloc (Nat.le_refl _) _
 have s0 : W0.heap.size = w.heap.size + 1 := by rw [← hW0]; simp
 have hz : W0.heap[w.heap.size]? = some (.cells #[.int .i64 0, .bool false, .int .i64 0, .string ⟨#[]⟩, .slice none 0 0, .slice none 0 0] 27 (0, 0)) := by rw [← hW0]; exact heap_alloc_new w _
 have hc0 := hcv W0 b0
 obtain ⟨W1, hW1⟩ : ∃ W1, W0.alloc (.cells #[.string s, .int .i64 0, .int .i64 0, .int .i64 0, .int .i64 0] 46) = W1 := ⟨_, rfl⟩
 have hr1 : Rr W1 W0.heap.size s 0 0 0 0 := ⟨by rw [← hW1]; exact heap_alloc_new W0 _, by omega, hs, by omega⟩
 have cV := hv W1 W0.heap.size s 0 0 (by omega) hr1
 unfold ptr at cV
 rw [s0] at cV
 clear hcv hU
 go_enter Tryz.func6, Tryz.ntmps6
 go_wp2_with fail
 refine cV.mono ?_
 rintro e w2 ⟨hR, hk2⟩
 clear cV hc0
 obtain ⟨Y, hY⟩ : ∃ Y, vl s 24 0 0 = Y := ⟨_, rfl⟩
 rw [hY] at hR HU
 clear hY
 have hz1 : W1.heap[w.heap.size]? = _ := ((by rw [← hW1]; exact (Below.refl _ W0).alloc (Nat.le_refl _) _ : Below W0.heap.size W0 W1).block w.heap.size (by omega)).trans hz
 have s1 : W1.heap.size = w.heap.size + 2 := by rw [← hW1]; simp [s0]
 have b1 : Below w.heap.size w W1 := b0.trans ((by rw [← hW1]; exact (Below.refl _ W0).alloc (by omega) _ : Below w.heap.size W0 W1))
 have hz2 := (hk2.other w.heap.size (by omega) (by omega)).trans hz1
 have b2 : Below w.heap.size w w2 := b1.trans (hk2.below.mono (by omega))
 have s2 := hk2.below.size
 clear hz hz1 hW0 hW1
 cases Y with
 | error x =>
  obtain ⟨⟨k, bo, xx, t, an, ln, cn, al, ll, cl, rfl⟩, hne, j, b', hr⟩ := hR
  obtain ⟨xc, xp⟩ := x
  have hU2 : U = .error (xc, xp) := HU.out.symm
  subst hU2
  clear HU
  obtain ⟨W3, hW3⟩ : ∃ W3, w2.alloc (.cells #[.int .i64 k, .bool bo, .int .i64 xx, .string t, .slice an ln cn, .slice al ll cl] 27) = W3 := ⟨_, rfl⟩
  have b3 : Below w2.heap.size w2 W3 := by rw [← hW3]; exact (Below.refl _ w2).alloc (Nat.le_refl _) _
  have hr3 := hr.below b3
  have hz3 := (b3.block w.heap.size (by omega)).trans hz2
  have e0 : ((xc : Int) == 0) = false := by simp; exact hne
  have e1 : ((xc : Int) != 0) = true := by simp; exact hne
  obtain ⟨p0, p1, p2, p3, -⟩ := hr3.cells
  obtain ⟨d0, d1, d2, d3, d4, d5⟩ := six_box hz3
  have f0 := frozen_box hz3 0
  have f1 := frozen_box hz3 1
  have f2 := frozen_box hz3 2
  have f3 := frozen_box hz3 3
  have f4 := frozen_box hz3 4
  have f5 := frozen_box hz3 5
  have HZ3 : Hid (W3.heap[w.heap.size]? = some (.cells #[.int .i64 0, .bool false, .int .i64 0, .string ⟨#[]⟩, .slice none 0 0, .slice none 0 0] 27 (0, 0))) := hz3
  have HB3 : Hid (Below w.heap.size w W3) := b2.trans (b3.mono (by omega))
  clear hr hr1 hr3 hz2 hz3 b3
  go_wp2_with fail
  go_region
  obtain ⟨W6, hW6⟩ : ∃ W6, ((((((W3.setCell ⟨w.heap.size, 0, none⟩ (.int .i64 0)).setCell ⟨w.heap.size, 1, none⟩ (.bool false)).setCell ⟨w.heap.size, 2, none⟩ (.int .i64 0)).setCell ⟨w.heap.size, 3, none⟩ (.string ⟨#[]⟩)).setCell ⟨w.heap.size, 4, none⟩ (.slice none 0 0)).setCell ⟨w.heap.size, 5, none⟩ (.slice none 0 0)) = W6 := ⟨_, rfl⟩
  rw [hW6]
  obtain ⟨q1, q2, q3, q4⟩ := set6 _ _ _ _ _ _ HZ3.out hW6
  clear hW6
  go_wp2_with fail
  have v6 : W6.drew.heap[w.heap.size]? = _ := q1
  obtain ⟨g0, g1, g2, g3, g4, g5⟩ := six_box v6
  refine bodyPost_ret (v := .tuple #[.agg #[.int .i64 0, .bool false, .int .i64 0, .string ⟨#[]⟩, .slice none 0 0, .slice none 0 0], .int .i64 xp, .int .i64 xc]) (by simp [results, Tryz.results6, go_sem, g0, g1, g2, g3, g4, g5]) rfl ?_
  exact ⟨(q4 _ _ (Nat.le_refl _) HB3.out).drew, rfl⟩
 | ok y =>
  obtain ⟨c, j, b'⟩ := y
  obtain ⟨k, bo, xx, t, nn, l⟩ := c
  obtain ⟨⟨u, rfl, hfs⟩, hr⟩ := hR
  obtain ⟨an, ln, cn, al, ll, cl, rfl⟩ := Doc.fs_shape hfs
  have HFS : Hid (Fs w2 24 (Rg W1.heap.size w2.heap.size) (.agg #[.int .i64 k, .bool bo, .int .i64 xx, .string t, .slice an ln cn, .slice al ll cl]) (.mk k bo xx t nn l)) := hfs
  have HU2 : Hid (U = if blk s j < s.size then .error (600, blk s j) else .ok (.mk k bo xx t nn l)) := HU.out.symm
  clear HU hfs
  obtain ⟨W3, hW3⟩ : ∃ W3, w2.alloc (.cells #[.int .i64 k, .bool bo, .int .i64 xx, .string t, .slice an ln cn, .slice al ll cl] 27) = W3 := ⟨_, rfl⟩
  have b3 : Below w2.heap.size w2 W3 := by rw [← hW3]; exact (Below.refl _ w2).alloc (Nat.le_refl _) _
  have s3 : W3.heap.size = w2.heap.size + 1 := by rw [← hW3]; simp
  have hu3 : W3.heap[w2.heap.size]? = some (.cells #[.int .i64 k, .bool bo, .int .i64 xx, .string t, .slice an ln cn, .slice al ll cl] 27 (0, 0)) := by rw [← hW3]; exact heap_alloc_new w2 _
  have hr3 := hr.below b3
  have hz3 := (b3.block w.heap.size (by omega)).trans hz2
  have cB := blanks_c hr3
  unfold ptr at cB
  obtain ⟨p0, p1, p2, p3, -⟩ := hr3.cells
  clear hr hr1 hr3 hz2
  go_wp2_with fail
  refine cB.mono ?_
  rintro e w4 ⟨rfl, hr4, hk4⟩
  clear cB p0 p1 p2 p3 hW3
  have hu4 := (hk4.other w2.heap.size (by omega) (by omega)).trans hu3
  have hz4 := (hk4.other w.heap.size (by omega) (by omega)).trans hz3
  have HK4 : Hid (Kr (w.heap.size + 1) W3 w4) := hk4
  have b4 : Below w.heap.size w w4 := (b2.trans (b3.mono (by omega))).trans (hk4.below.mono (by omega))
  have hblk := (blk_le s (s.size - j) j (Nat.le_refl _))
  obtain ⟨p0, p1, p2, p3, -⟩ := hr4.cells
  by_cases hlt2 : blk s j < s.size
  ·have hU2 : U = .error (600, blk s j) := by rw [HU2.out, if_pos hlt2]
   subst hU2
   generalize blk s j = J at *
   have dJ : decide (J < s.size) = true := decide_eq_true hlt2
   go_wp2_with fail
   go_quiet (fail)
   have hr5 := hr4.drewN nq
   have hz5 : (w4.drewN nq).heap[w.heap.size]? = _ := hz4
   have HB5 : Hid (Below w.heap.size w (w4.drewN nq)) := b4.trans ⟨rfl, rfl, rfl, by simp, fun _ _ => by simp⟩
   have HS5 : Hid ((w4.drewN nq).heap.size = w4.heap.size) := rfl
   clear hr4 hu4 hz4 p0 p1 p2 p3
   generalize w4.drewN nq = W5 at *
   obtain ⟨p0, p1, p2, p3, -⟩ := hr5.cells
   have cF := fail_first hr5 600 J (by omega) (by omega)
   unfold ptr at cF
   have HZ5 : Hid (W5.heap[w.heap.size]? = some (.cells #[.int .i64 0, .bool false, .int .i64 0, .string ⟨#[]⟩, .slice none 0 0, .slice none 0 0] 27 (0, 0))) := hz5
   clear hr5 hz5
   go_wp2_with fail
   refine cF.mono ?_
   rintro e w6 ⟨rfl, hr6, hk6⟩
   clear cF p0 p1 p2 p3
   have hz6 := (hk6.other w.heap.size (by omega) (by have := HS5.out; have := hk4.below.size; omega)).trans HZ5.out
   have HB6 : Hid (Below w.heap.size w w6) := HB5.out.trans (hk6.below.mono (by omega))
   obtain ⟨p0, p1, p2, p3, -⟩ := hr6.cells
   obtain ⟨d0, d1, d2, d3, d4, d5⟩ := six_box hz6
   have f0 := frozen_box hz6 0
   have f1 := frozen_box hz6 1
   have f2 := frozen_box hz6 2
   have f3 := frozen_box hz6 3
   have f4 := frozen_box hz6 4
   have f5 := frozen_box hz6 5
   have HZ3 : Hid (w6.heap[w.heap.size]? = some (.cells #[.int .i64 0, .bool false, .int .i64 0, .string ⟨#[]⟩, .slice none 0 0, .slice none 0 0] 27 (0, 0))) := hz6
   clear hr6 hz6
   go_wp2_with fail
   go_region
   obtain ⟨W6, hW6⟩ : ∃ W6, ((((((w6.setCell ⟨w.heap.size, 0, none⟩ (.int .i64 0)).setCell ⟨w.heap.size, 1, none⟩ (.bool false)).setCell ⟨w.heap.size, 2, none⟩ (.int .i64 0)).setCell ⟨w.heap.size, 3, none⟩ (.string ⟨#[]⟩)).setCell ⟨w.heap.size, 4, none⟩ (.slice none 0 0)).setCell ⟨w.heap.size, 5, none⟩ (.slice none 0 0)) = W6 := ⟨_, rfl⟩
   rw [hW6]
   obtain ⟨q1, q2, q3, q4⟩ := set6 _ _ _ _ _ _ HZ3.out hW6
   clear hW6
   go_wp2_with fail
   have v6 : W6.drew.heap[w.heap.size]? = _ := q1
   obtain ⟨g0, g1, g2, g3, g4, g5⟩ := six_box v6
   refine bodyPost_ret (v := .tuple #[.agg #[.int .i64 0, .bool false, .int .i64 0, .string ⟨#[]⟩, .slice none 0 0, .slice none 0 0], .int .i64 (J : Nat), .int .i64 600]) (by simp [results, Tryz.results6, go_sem, g0, g1, g2, g3, g4, g5]) rfl ?_
   exact ⟨(q4 _ _ (Nat.le_refl _) HB6.out).drew, rfl⟩
  ·have hU2 : U = .ok (.mk k bo xx t nn l) := by rw [HU2.out, if_neg hlt2]
   subst hU2
   generalize blk s j = J at *
   have dJ : decide (J < s.size) = false := decide_eq_false hlt2
   go_wp2_with fail
   go_quiet (fail)
   have hr5 := hr4.drewN nq
   have hu5 : (w4.drewN nq).heap[w2.heap.size]? = _ := hu4
   have hz5 : (w4.drewN nq).heap[w.heap.size]? = _ := hz4
   have HB5 : Hid (Below w.heap.size w (w4.drewN nq)) := b4.trans ⟨rfl, rfl, rfl, by simp, fun _ _ => by simp⟩
   have H45 : Hid (∀ g : Nat, (w4.drewN nq).heap[g]? = w4.heap[g]?) := fun g => rfl
   have HS5 : Hid ((w4.drewN nq).heap.size = w4.heap.size) := rfl
   clear hr4 hu4 hz4 p0 p1 p2 p3
   generalize w4.drewN nq = W5 at *
   obtain ⟨p0, p1, p2, p3, -⟩ := hr5.cells
   obtain ⟨d0, d1, d2, d3, d4, d5⟩ := six_box hz5
   obtain ⟨c0, c1, c2, c3, c4, c5⟩ := six_box hu5
   have f0 := frozen_box hz5 0
   have f1 := frozen_box hz5 1
   have f2 := frozen_box hz5 2
   have f3 := frozen_box hz5 3
   have f4 := frozen_box hz5 4
   have f5 := frozen_box hz5 5
   have HZ3 : Hid (W5.heap[w.heap.size]? = some (.cells #[.int .i64 0, .bool false, .int .i64 0, .string ⟨#[]⟩, .slice none 0 0, .slice none 0 0] 27 (0, 0))) := hz5
   clear hr5 hz5 hu5
   go_wp2_with fail
   obtain ⟨W6, hW6⟩ : ∃ W6, ((((((W5.setCell ⟨w.heap.size, 0, none⟩ (.int .i64 k)).setCell ⟨w.heap.size, 1, none⟩ (.bool bo)).setCell ⟨w.heap.size, 2, none⟩ (.int .i64 xx)).setCell ⟨w.heap.size, 3, none⟩ (.string t)).setCell ⟨w.heap.size, 4, none⟩ (.slice an ln cn)).setCell ⟨w.heap.size, 5, none⟩ (.slice al ll cl)) = W6 := ⟨_, rfl⟩
   rw [hW6]
   obtain ⟨q1, q2, q3, q4⟩ := set6 _ _ _ _ _ _ HZ3.out hW6
   clear hW6
   obtain ⟨g0, g1, g2, g3, g4, g5⟩ := six_box q1
   refine bodyPost_ret (v := .tuple #[.agg #[.int .i64 k, .bool bo, .int .i64 xx, .string t, .slice an ln cn, .slice al ll cl], .int .i64 0, .int .i64 0]) (by simp [results, Tryz.results6, go_sem, g0, g1, g2, g3, g4, g5]) rfl ?_
   have s4 := HK4.out.below.size
   have s5 := HS5.out
   refine ⟨q4 _ _ (Nat.le_refl _) HB5.out, _, rfl, (HFS.out.keep fun g hg hlt => ?_).weak _ (Nat.le_refl _) fun g hg => ⟨by have := hg.1; omega, by have := hg.2; omega⟩⟩
   have hg1 := hg.1
   exact (((q2 g (by omega)).trans (H45.out g)).trans (HK4.out.other g (by omega) (by omega))).trans (b3.block g hlt)
/-- The document's own Parse answers as the plain reader says. -/
theorem rparse_c {a : Option Addr} {cap : Nat} {w : World} {s : ByteArray} (hv : RVs 24 1 24) (hcv : ∀ w', Below w.heap.size w w' → (convert 22 9 (.slice a s.size cap)).run Tryz.prog w' = .ok (.string s) w') :
  Calls Tryz.prog 6 #[.slice a s.size cap] w (Pout w (prs s)) := by
 by_cases hs : s.size ≤ 65536
 ·exact short_c hv hs hcv
 ·exact long_c hs
end Go.Proofs.YthkpbhgbmagaeaaGreatDoor.RPar

import Derived.Test.YthjbknncbhkinaaGreatDoorPS19
import Derived.Test.YthjbknncbhkinaaGreatDoorPS21
open Go.Proofs.Tryz
set_option linter.unusedVariables false
set_option maxRecDepth 20000
set_option maxHeartbeats 3200000
namespace Go.Proofs.YthjbknncbhkinaaGreatDoor.METx
open Go.RowKit Base MSe
open STx (tg)
theorem no_c (s : ByteArray) (hs : s.size <= 140737488351232) (w : World) : Calls prog 39 #[.string s] w fun e w' => e = .returned (.bool (!tg s)) /\ Below w.heap.size w w' := by
 have cC := STx.tmb_c s hs w
 generalize tg s = z at *
 go_enter func39, ntmps39
 go_wp2_with fail
 refine cC.mono ?_
 rintro e W1 ⟨rfl, hb1⟩
 have HB1 : Hid _ := hb1
 clear hb1 cC
 go_wp2_with fail
 go_ret
 exact ⟨rfl, HB1.out⟩
theorem any_cons (l : List ByteArray) (q : Nat) (h : q < l.length) : (l.drop q).any (fun s => !tg s) = ((!tg l[q]) || (l.drop (q + 1)).any (fun s => !tg s)) := by
 rw [List.drop_eq_getElem_cons h, List.any_cons]
theorem index_c {K : Nat} {w : World} {v : Value} {l : List ByteArray} (hin : Tz K w v l) (hK : K <= w.heap.size) :
  Calls prog 61 #[v, .func (.func 39) #[] #[]] w fun e w' => ∃ z : Int, e = .returned (.int .i64 z) /\ decide (0 <= z) = l.any (fun s => !tg s) /\ Below w.heap.size w w' := by
 have HIN : Hid (Tz K w v l) := hin
 obtain ⟨a, cap, rfl, hlc, hcm, hL⟩ := hin
 obtain ⟨T, hT⟩ : ∃ T, l.any (fun s => !tg s) = T := ⟨_, rfl⟩
 have HT : Hid ((l.drop 0).any (fun s => !tg s) = T) := hT
 rw [hT]
 clear hT hL
 go_enter func61, ntmps61
 go_wp2_with fail
 go_loopw [8] (fun i wr => ∃ q : Nat, q <= l.length /\ i = .int .i64 q /\ (l.drop q).any (fun s => !tg s) = T /\ Below w.heap.size w wr) (fun i _ => l.length - (intOf i).toNat)
 case atStart => exact ⟨0, by omega, rfl, HT.out, Below.refl _ _⟩
 case round =>
  clear HT
  obtain ⟨q, hq, rfl, hM, hb⟩ := hrel
  have Hb : Hid (Below w.heap.size w wr) := hb
  by_cases hlt : q < l.length
  ·have d0 : decide ((q : Int) < (l.length : Int)) = true := by simp; omega
   have i0 : (0 : Int) <= (q : Int) := by omega
   have i1 : (q : Int) < (l.length : Int) := by omega
   obtain ⟨aa, cc, hsl, -, -, hL⟩ := HIN.out
   cases hsl
   obtain ⟨g, o, rfl, hg, hc⟩ : ∃ g o, a = some ⟨g, o, none⟩ /\ g < K /\ ∀ j (h : j < l.length), w.cell? ⟨g, o + j, none⟩ = some (.string l[j]) /\ l[j].size <= 140737488351232 := by
    rcases hL with rfl | hL
    ·simp at hlt
    ·exact hL
   obtain ⟨k0, hsz⟩ := hc q hlt
   have k0 := below_cell k0 hb
   rw [any_cons l q hlt] at hM
   generalize l[q] = s at *
   have cO := no_c s hsz wr
   obtain ⟨b, hb'⟩ : ∃ b, (!tg s) = b := ⟨_, rfl⟩
   rw [hb'] at cO hM
   have HM : Hid ((b || (l.drop (q + 1)).any (fun s => !tg s)) = T) := hM
   clear hb' hM hb hL hc
   go_wp2_with fail
   refine cO.mono ?_
   rintro e W1 ⟨rfl, b1⟩
   have HB1 : Hid (Below w.heap.size w W1) := Hb.out.trans (b1.mono Hb.out.size)
   clear cO b1 k0
   cases b with
   | true =>
    have hT : true = T := by have := HM.out; rw [Bool.true_or] at this; exact this
    subst hT
    go_wp2_with fail
    go_ret
    exact ⟨_, rfl, by simp, HB1.out⟩
   | false =>
    go_wp2_with fail
    go_roundw
    case rel => exact ⟨q + 1, by omega, by go_num, by have := HM.out; rw [Bool.false_or] at this; exact this, HB1.out⟩
    case measure => simp only [intOf]; omega
  ·have d0 : decide ((q : Int) < (l.length : Int)) = false := by simp; omega
   have hT : false = T := by
    rw [List.drop_eq_nil_of_le (by omega)] at hM
    exact hM
   subst hT
   clear hM
   go_wp2_with fail
   go_ret
   exact ⟨_, rfl, by simp, Hb.out⟩
theorem contains_c {K : Nat} {w : World} {v : Value} {l : List ByteArray} (hin : Tz K w v l) (hK : K <= w.heap.size) :
  Calls prog 38 #[v, .func (.func 39) #[] #[]] w fun e w' => e = .returned (.bool (l.any fun s => !tg s)) /\ Below w.heap.size w w' := by
 have cI := index_c hin hK
 obtain ⟨T, hT⟩ : ∃ T, l.any (fun s => !tg s) = T := ⟨_, rfl⟩
 rw [hT] at cI ⊢
 obtain ⟨a, cap, rfl, -⟩ := hin
 clear hT
 go_enter func38, ntmps38
 go_wp2_with fail
 refine cI.mono ?_
 rintro e W1 ⟨z, rfl, hz, hb⟩
 have HB : Hid (Below w.heap.size w W1) := hb
 have HZ : Hid (decide (0 <= z) = T) := hz
 clear hb cI hz
 go_wp2_with fail
 have hT := HZ.out
 subst hT
 go_ret
 exact ⟨rfl, HB.out⟩
end Go.Proofs.YthjbknncbhkinaaGreatDoor.METx

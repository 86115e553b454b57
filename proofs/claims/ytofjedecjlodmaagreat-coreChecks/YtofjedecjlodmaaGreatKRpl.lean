/- Are all places of an expression below a number: the document's own answer (stencilref15.Places). -/
import Derived.Test.YtofjedecjlodmaaGreatKHs
namespace Go.Proofs.YtofjedecjlodmaaGreat.KRpl
open Go.RowKit Go.Proofs.YtofjedecjlodmaaGreat.Base Go.Proofs.YtofjedecjlodmaaGreat.EPure Go.Proofs.YtofjedecjlodmaaGreat.KBase Go.Proofs.YtofjedecjlodmaaGreat.KHs
open Go.Proofs.YtofjedecjlodmaaGreat.XBase (four_box)
set_option linter.unusedVariables false

def PI (m : Nat) : Prop := ∀ (w : World) (v : Value) (x : Ex) (d : Int), XBase.In false (fun _ => True) w m v x →
    Calls Tryz.prog 45 #[v, .int .i64 d] w fun e w' => e = .returned (.bool (hs d [x])) ∧ Below w.heap.size w w'
theorem hs_drop (d : Int) (l : List Ex) (q : Nat) (h : q < l.length) : hs d (l.drop q) = (hs d [l[q]] && hs d (l.drop (q + 1))) := by
  rw [List.drop_eq_getElem_cons h, hs_cons]
set_option maxRecDepth 20000 in
set_option maxHeartbeats 1600000 in
theorem places_step (m : Nat) (ih : ∀ m', m' < m → PI m') : PI m := by
  intro w v x d hin
  have Hih : Hid (∀ m', m' < m → PI m') := ih
  obtain ⟨m', lv, rfl, rfl, -, -, -, hl⟩ := hin.shape
  obtain ⟨o, i, s, l⟩ := x
  have q0' : (Ex.mk o i s l).o = o := rfl
  have q1' : (Ex.mk o i s l).i = i := rfl
  have q2' : (Ex.mk o i s l).s = s := rfl
  have q3' : (Ex.mk o i s l).l = l := rfl
  rw [q3'] at hl
  rw [q0', q1', q2', hs_one]
  have HIN : Hid (XBase.InL false (fun _ => True) w m' lv l) := hl
  obtain ⟨a, cap, rfl, hlc, hcm, hlen, -, -⟩ := hl
  obtain ⟨W0, hW0⟩ : ∃ W0, w.alloc (.cells #[.int .i64 o, .int .i64 i, .string s, .slice a l.length cap] 58) = W0 := ⟨_, rfl⟩
  have b0 : Below w.heap.size w W0 := by rw [← hW0]; exact (Below.refl _ w).alloc (Nat.le_refl _) _
  have q0 : W0.heap[w.heap.size]? = some (.cells #[.int .i64 o, .int .i64 i, .string s, .slice a l.length cap] 58 (0, 0)) := by rw [← hW0]; exact heap_alloc_new w _
  have HB0 : Hid (Below w.heap.size w W0) := b0
  have HQ0 : Hid (W0.heap[w.heap.size]? = some (.cells #[.int .i64 o, .int .i64 i, .string s, .slice a l.length cap] 58 (0, 0))) := q0
  have HW0 : Hid (w.alloc (.cells #[.int .i64 o, .int .i64 i, .string s, .slice a l.length cap] 58) = W0) := hW0
  obtain ⟨T, hT⟩ : ∃ T, hs d l = T := ⟨_, rfl⟩
  have HT : Hid (hs d l = T) := hT
  rw [hT]
  clear b0 q0 hT ih hin hW0 q0' q1' q2' q3'
  suffices H : ∀ (x6 x1 x2 : Bool), (o == 6) = x6 → decide (i < 0) = x1 → decide (d ≤ i) = x2 → Calls Tryz.prog 45 #[.agg #[.int .i64 o, .int .i64 i, .string s, .slice a l.length cap], .int .i64 d] w fun e w' => e = .returned (.bool ((!(x6 && (x1 || x2))) && T)) ∧ Below w.heap.size w w' from H _ _ _ rfl rfl rfl
  intro x6 x1 x2 h6 h1 h2
  cases x6
  all_goals cases x1
  all_goals cases x2
  all_goals
    go_enter Tryz.func45, Tryz.ntmps45
    go_wp2_with fail
    try rw [HW0.out]
  all_goals first
    | (go_ret; exact ⟨by simp, HB0.out⟩)
    | skip
  all_goals
    go_loopw [5] (fun k wr => ∃ (q : Nat), k = .int .i64 q ∧ q ≤ l.length ∧ hs d (l.drop q) = T ∧ Below w.heap.size w wr ∧ wr.heap[w.heap.size]? = some (.cells #[.int .i64 o, .int .i64 i, .string s, .slice a l.length cap] 58 (0, 0))) (fun k _ => l.length - (intOf k).toNat)
    case atStart => exact ⟨0, rfl, by omega, HT.out, HB0.out, HQ0.out⟩
    case round =>
      obtain ⟨q, rfl, hq, hR, hb, hQ⟩ := hrel
      have HB : Hid (Below w.heap.size w wr) := hb
      have HQ : Hid (wr.heap[w.heap.size]? = some (.cells #[.int .i64 o, .int .i64 i, .string s, .slice a l.length cap] 58 (0, 0))) := hQ
      obtain ⟨c0, c1, c2, c3⟩ := four_box hQ
      clear hb hQ HB0 HQ0 HT HW0
      by_cases hlt : q < l.length
      · have d0 : decide ((q : Int) < (l.length : Int)) = true := by simp; omega
        have i0 : (0 : Int) ≤ (q : Int) := by omega
        have i1 : (q : Int) < (l.length : Int) := by omega
        have hinl := HIN.out.below HB.out
        obtain ⟨aa, cc, hsl, -, -, -, -, hLA⟩ := hinl
        cases hsl
        obtain ⟨g, of, u, rfl, -, hFour, hInq⟩ := XBase.elem_at hLA hlt
        obtain ⟨u0, u1, u2, u3', rfl, f0, f1, f2, f3⟩ := hFour
        have cN := Hih.out m' (by omega) wr _ _ d hInq
        rw [hs_drop d l q hlt] at hR
        obtain ⟨Z, hZ⟩ : ∃ Z, hs d [l[q]] = Z := ⟨_, rfl⟩
        rw [hZ] at cN hR
        have HR : Hid ((Z && hs d (l.drop (q + 1))) = T) := hR
        clear hLA hInq hZ hR
        go_wp2_with fail
        refine cN.mono ?_
        rintro e W1 ⟨rfl, b1⟩
        have HB1 : Hid (Below w.heap.size w W1) := nx HB.out b1
        have HQ1 : Hid _ := (b1.block w.heap.size (Array.getElem?_eq_some_iff.1 HQ.out).1).trans HQ.out
        clear cN b1
        cases Z with
        | true =>
          go_wp2_with fail
          go_roundw
          case rel => exact ⟨q + 1, by go_num, by omega, by have := HR.out; rw [Bool.true_and] at this; exact this, HB1.out, HQ1.out⟩
          case measure => simp only [intOf]; omega
        | false =>
          have hT : T = false := by have := HR.out; rw [Bool.false_and] at this; exact this.symm
          subst hT
          go_wp2_with fail
          go_ret
          exact ⟨rfl, HB1.out⟩
      · obtain rfl : q = l.length := by omega
        have d0 : decide ((l.length : Int) < (l.length : Int)) = false := by simp
        have hT : true = T := by rw [List.drop_length, hs_nil] at hR; exact hR
        subst hT
        go_wp2_with fail
        go_ret
        exact ⟨rfl, HB.out⟩
theorem places_all (m : Nat) : PI m := by
  induction m using Nat.strongRecOn with
  | _ m ih => exact places_step m ih
end Go.Proofs.YtofjedecjlodmaaGreat.KRpl

/- What is the same for every program: the forest of 'awake'. -/
import Derived.Test.YtonoalbhpligfaaTWrite
import Derived.Test.YtonoalbhpligfaaTSame
namespace Go.Proofs.Ytonoalbhpligfaa.TAw
open Go.RowKit Go.Proofs.Ytonoalbhpligfaa.TBase Go.Proofs.Ytonoalbhpligfaa.TPure Go.Proofs.Ytonoalbhpligfaa.TMay Go.Proofs.Ytonoalbhpligfaa.TVisit Go.Proofs.Ytonoalbhpligfaa.TMeas Go.Proofs.Ytonoalbhpligfaa.TSpecH Go.Proofs.Ytonoalbhpligfaa.TWrite Go.Proofs.Ytonoalbhpligfaa.TSame
set_option linter.unusedVariables false

def tx : T := .mk ⟨#[]⟩ ⟨#[120, 60, 121]⟩ [] []
def tb : T := .mk ⟨#[98]⟩ ⟨#[]⟩ [] []
def tp : T := .mk ⟨#[112]⟩ ⟨#[]⟩ [(⟨#[99, 108, 97, 115, 115]⟩, ⟨#[97]⟩)] [tx, tb]
def tP : T := .mk ⟨#[80]⟩ ⟨#[]⟩ [] []
theorem ax : alone tx = true := by kernel_rfl
theorem ab : alone tb = true := by kernel_rfl
theorem ap : alone tp = true := by kernel_rfl
theorem aP : alone tP = false := by kernel_rfl
theorem fl (c : T) (d k : Nat) (h1 : k ≤ 4096) (h2 : d ≤ 64) (h : alone c = true) : flt c d k = 0 := by
  unfold flt
  rw [if_neg (by omega), if_neg (by omega), if_pos h]
theorem vp : vis [tp] 1 0 0 = (3, 2, 0) := by
  have e1 : vis tp.l 2 1 1 = (3, 2, 0) := by
    show vis [tx, tb] 2 1 1 = _
    have ex : vis tx.l 3 2 2 = (2, 2, 0) := vis_nil _ _ _
    have eb : vis tb.l 3 3 2 = (3, 2, 0) := vis_nil _ _ _
    rw [vis_cons, if_pos (fl _ _ _ (by omega) (by omega) ax), show max 1 2 = 2 by rfl, show 1 + 1 = 2 by rfl, show 2 + 1 = 3 by rfl, ex, if_pos rfl]
    show vis [tb] 2 2 2 = _
    rw [vis_cons, if_pos (fl _ _ _ (by omega) (by omega) ab), show max 2 2 = 2 by rfl, show 2 + 1 = 3 by rfl, eb, if_pos rfl, vis_nil]
  rw [vis_cons, if_pos (fl _ _ _ (by omega) (by omega) ap), show max 0 1 = 1 by rfl, show 1 + 1 = 2 by rfl, show 0 + 1 = 1 by rfl, e1, if_pos rfl, vis_nil]
theorem vP : ck [tP] = 700 := by
  have e : flt tP 1 (0 + 1) = 700 := by unfold flt; rw [if_neg (by omega), if_neg (by omega), aP]; rfl
  unfold ck
  rw [vis_cons, if_neg (by rw [e]; omega), e]
theorem cp : ck [tp] = 0 ∧ ct [tp] = 3 ∧ dp [tp] = 2 := by
  have h : ck [tp] = 0 := by unfold ck; rw [vp]
  unfold ct dp
  rw [h, vp]
  exact ⟨rfl, rfl, rfl⟩
theorem hp : htB [tp] = ⟨#[60, 112, 32, 99, 108, 97, 115, 115, 61, 34, 97, 34, 62, 120, 38, 108, 116, 59, 121, 60, 98, 62, 60, 47, 98, 62, 60, 47, 112, 62]⟩ := by
  have ex : h1 tx = [120, 38, 108, 116, 59, 121] := by kernel_rfl
  have eb : h1 tb = [60, 98, 62, 60, 47, 98, 62] := by
    unfold h1
    rw [show tb.g.toList.isEmpty = false by kernel_rfl, if_neg (by simp)]
    show 60 :: ([98] ++ (ats [] ++ 62 :: (ht [] ++ 60 :: 47 :: ([98] ++ [62])))) = _
    rw [ht_nil]
    rfl
  have ep : h1 tp = [60, 112, 32, 99, 108, 97, 115, 115, 61, 34, 97, 34, 62, 120, 38, 108, 116, 59, 121, 60, 98, 62, 60, 47, 98, 62, 60, 47, 112, 62] := by
    unfold h1
    rw [show tp.g.toList.isEmpty = false by kernel_rfl, if_neg (by simp)]
    show 60 :: ([112] ++ (ats [(⟨#[99, 108, 97, 115, 115]⟩, ⟨#[97]⟩)] ++ 62 :: (ht [tx, tb] ++ 60 :: 47 :: ([112] ++ [62])))) = _
    rw [ht_cons, ht_cons, ht_nil, ex, eb]
    kernel_rfl
  unfold htB
  rw [if_pos cp.1, ht_cons, ht_nil, ep]
  rfl
theorem sp : sm [tp] [tp] = true ∧ sm [tp] [] = false := by
  refine ⟨?_, sm_len (by simp)⟩
  have key : ∀ (m : Nat) (l : List T), SizeOf.sizeOf l ≤ m → sm l l = true := by
    intro m
    induction m with
    | zero =>
      intro l hm
      cases l with
      | nil => exact sm_nil
      | cons c cs => simp at hm
    | succ m ih =>
      intro l hm
      cases l with
      | nil => exact sm_nil
      | cons c cs =>
        obtain ⟨g, s, n, l⟩ := c
        simp at hm
        rw [sm_cons, ih cs (by omega)]
        unfold s1
        rw [show sm (T.mk g s n l).l (T.mk g s n l).l = true from ih l (by omega)]
        have hn : ∀ n : List (ByteArray × ByteArray), sa n n = true := by
          intro n
          induction n with
          | nil => rfl
          | cons t n ih => rw [sa, ih]; simp [ea, eqB]
        rw [hn]
        simp [eqB]
  exact key _ _ (Nat.le_refl _)
theorem num_c (a : Int) (w : World) : Calls Try.prog 14 #[.int .i64 a] w fun r w' => r = .returned (.int .i64 a) ∧ w' = w := by
  go_enter Try.func14, Try.ntmps14
  go_wp2_with fail
  go_ret
  exact ⟨rfl, rfl⟩
/-- The blocks of that forest. -/
def oA : Obj := .cells #[.string ⟨#[99, 108, 97, 115, 115]⟩, .string ⟨#[97]⟩] 39
def oK : Obj := .cells #[.string ⟨#[]⟩, .string ⟨#[120, 60, 121]⟩, .slice none 0 0, .slice none 0 0, .string ⟨#[98]⟩, .string ⟨#[]⟩, .slice none 0 0, .slice none 0 0] 37
def oF (b : Nat) : Obj := .cells #[.string ⟨#[112]⟩, .string ⟨#[]⟩, .slice (some ⟨b, 0, none⟩) 1 1, .slice (some ⟨b + 1, 0, none⟩) 2 2] 37
theorem ax0 (w : World) : Ax false All w (.slice none 0 0) [] := ⟨none, 0, rfl, by simp, by simp, by simp, by simp, fun _ => rfl, .inl ⟨rfl, rfl⟩⟩
theorem in0 (w : World) (m : Nat) : InL false All w m (.slice none 0 0) [] := ⟨none, 0, rfl, by simp, by simp, by simp, fun _ => rfl, .inl ⟨rfl, rfl⟩⟩
theorem leaf (w : World) (m : Nat) (g s : ByteArray) (hg : g.size ≤ 140737488351232) (hs : s.size ≤ 140737488351232) : In false All w (m + 1) (.agg #[.string g, .string s, .slice none 0 0, .slice none 0 0]) (.mk g s [] []) := by
  rw [in_iff]
  exact ⟨_, _, rfl, hg, hs, ax0 w, in0 w m⟩
/-- A row of one tree. -/
theorem one_in {w : World} {m b : Nat} {v0 v1 v2 v3 : Value} {c : T} {t : TypeId} (h : w.heap[b]? = some (.cells #[v0, v1, v2, v3] t (0, 0))) (hin : In false All w m (.agg #[v0, v1, v2, v3]) c) : InL false All w m (.slice (some ⟨b, 0, none⟩) 1 1) [c] := by
  obtain ⟨k0, k1, k2, k3⟩ := four_box h
  refine ⟨some ⟨b, 0, none⟩, 1, rfl, by simp, by simp, by simp, (fun h => by cases h), .inr ⟨b, 0, rfl, trivial, ?_, fun h => by cases h⟩⟩
  intro j hj
  obtain rfl : j = 0 := by simpa using hj
  exact ⟨_, ⟨v0, v1, v2, v3, rfl, k0, k1, k2, k3⟩, hin⟩
theorem forest_in {w : World} {b : Nat} (h0 : w.heap[b]? = some oA) (h1 : w.heap[b + 1]? = some oK) (h2 : w.heap[b + 2]? = some (oF b)) : InL false All w 2 (.slice (some ⟨b + 2, 0, none⟩) 1 1) [tp] := by
  refine one_in h2 ?_
  unfold tp
  rw [in_iff]
  refine ⟨_, _, rfl, by decide, by decide, ?_, ?_⟩
  · obtain ⟨k0, k1⟩ := two_box h0
    refine ⟨some ⟨b, 0, none⟩, 1, rfl, by simp, by simp, by simp, ?_, (fun h => by cases h), .inr ⟨b, 0, rfl, trivial, ?_, fun h => by cases h⟩⟩
    · intro t ht
      simp at ht
      subst ht
      exact ⟨by decide, by decide⟩
    · intro j hj
      obtain rfl : j = 0 := by simpa using hj
      exact ⟨k0, k1⟩
  · refine ⟨some ⟨b + 1, 0, none⟩, 2, rfl, by simp, by simp, by simp, (fun h => by cases h), .inr ⟨b + 1, 0, rfl, trivial, ?_, fun h => by cases h⟩⟩
    intro j hj
    have hj : j < 2 := by simpa using hj
    have hc : ∀ i u, (#[Value.string ⟨#[]⟩, .string ⟨#[120, 60, 121]⟩, .slice none 0 0, .slice none 0 0, .string ⟨#[98]⟩, .string ⟨#[]⟩, .slice none 0 0, .slice none 0 0] : Array Value)[i]? = some u → w.cell? ⟨b + 1, i, none⟩ = some u := by
      intro i u hu
      unfold World.cell?
      rw [h1]
      exact hu
    obtain rfl | rfl : j = 0 ∨ j = 1 := by omega
    · exact ⟨_, ⟨_, _, _, _, rfl, hc 0 _ rfl, hc 1 _ rfl, hc 2 _ rfl, hc 3 _ rfl⟩, leaf _ _ _ _ (by decide) (by decide)⟩
    · exact ⟨_, ⟨_, _, _, _, rfl, hc 4 _ rfl, hc 5 _ rfl, hc 6 _ rfl, hc 7 _ rfl⟩, leaf _ _ _ _ (by decide) (by decide)⟩
theorem wt_tp : 16 * wt [tp] ≤ 140737488355328 := by
  have e : wt tp.l = 6 := by
    show wt [tx, tb] = _
    rw [wt_cons, wt_cons, wt_nil]
    have ex : w1 tx = 4 := by unfold w1; show 0 + 3 + 0 + 1 + wt [] = 4; rw [wt_nil]
    have eb : w1 tb = 2 := by unfold w1; show 1 + 0 + 0 + 1 + wt [] = 2; rw [wt_nil]
    rw [ex, eb]
  rw [wt_cons, wt_nil]
  unfold w1
  rw [e]
  show 16 * (1 + 0 + 7 + 1 + 6 + 0) ≤ _
  omega
set_option maxRecDepth 20000 in
set_option maxHeartbeats 800000 in
theorem awake_c (w : World) : Calls Try.prog 19 #[] w fun r w' => r = .returned (.bool true) ∧ Below w.heap.size w w' := by
  obtain ⟨W0, hW0⟩ : ∃ W0, ((w.alloc oA).alloc oK).alloc (oF w.heap.size) = W0 := ⟨_, rfl⟩
  have b0 : Below w.heap.size w W0 := by rw [← hW0]; exact (bx.alloc (by simp) _).alloc (by simp; omega) _
  have s0 : W0.heap.size = w.heap.size + 3 := by rw [← hW0]; simp
  have x0 : W0.heap[w.heap.size]? = some oA := by rw [← hW0, Below.heap_alloc _ _ _ (by simp; omega), Below.heap_alloc _ _ _ (by simp), heap_alloc_new]
  have x1 : W0.heap[w.heap.size + 1]? = some oK := by
    rw [← hW0, Below.heap_alloc _ _ _ (by simp)]
    have := heap_alloc_new (w.alloc oA) oK
    rwa [World.size_alloc] at this
  have x2 : W0.heap[w.heap.size + 2]? = some (oF w.heap.size) := by
    rw [← hW0]
    have := heap_alloc_new ((w.alloc oA).alloc oK) (oF w.heap.size)
    rwa [World.size_alloc, World.size_alloc] at this
  have hin := forest_in x0 x1 x2
  unfold oA oK oF at hW0
  have c12 := html_c 2 _ [tp] W0 hin (fun _ => wt_tp)
  rw [cp.1, hp] at c12
  have HI : Hid (InL false All W0 2 (.slice (some ⟨w.heap.size + 2, 0, none⟩) 1 1) [tp]) := hin
  clear hin x0 x1 x2
  go_enter Try.func19, Try.ntmps19
  go_wp2_with fail
  refine c12.mono ?_
  rintro e w1 ⟨rfl, b1⟩
  have b2 : Below w1.heap.size w1 (w1.alloc (.cells #[.string ⟨#[80]⟩, .string ⟨#[]⟩, .slice none 0 0, .slice none 0 0] 37)) := bx
  have c9 := check_c 1 _ [tP] _ (one_in (heap_alloc_new w1 (.cells #[.string ⟨#[80]⟩, .string ⟨#[]⟩, .slice none 0 0, .slice none 0 0] 37)) (leaf _ 0 ⟨#[80]⟩ ⟨#[]⟩ (by decide) (by decide)))
  rw [vP] at c9
  clear c12 hW0
  go_wp2_with fail
  refine c9.mono ?_
  rintro e w2 ⟨rfl, b3⟩
  have B2 : Below W0.heap.size W0 w2 := nx (nx b1 b2) b3
  have c10 := count_c 2 _ [tp] w2 (HI.out.below B2)
  rw [cp.2.1] at c10
  clear c9
  go_wp2_with (first | (go_at_call 14; refine (num_c _ _).mono ?_; rintro e w' ⟨rfl, rfl⟩))
  refine c10.mono ?_
  rintro e w3 ⟨rfl, b4⟩
  have c11 := depth_c 2 _ [tp] w3 (HI.out.below (nx B2 b4))
  rw [cp.2.2] at c11
  clear c10
  go_wp2_with fail
  refine c11.mono ?_
  rintro e w4 ⟨rfl, b5⟩
  have B4 := nx (nx B2 b4) b5
  have c20 := same_c 2 _ _ [tp] [tp] w4 (HI.out.below B4) (HI.out.below B4)
  rw [sp.1] at c20
  clear c11
  go_wp2_with fail
  refine c20.mono ?_
  rintro e w5 ⟨rfl, b6⟩
  have c21 := same_c 2 _ _ [tp] [] w5 (HI.out.below (nx B4 b6)) (in0 w5 2)
  rw [sp.2] at c21
  clear c20
  go_wp2_with fail
  refine c21.mono ?_
  rintro e w6 ⟨rfl, b7⟩
  clear c21
  go_wp2_with fail
  go_ret
  exact ⟨rfl, nx b0 (nx (nx B4 b6) b7)⟩
end Go.Proofs.Ytonoalbhpligfaa.TAw

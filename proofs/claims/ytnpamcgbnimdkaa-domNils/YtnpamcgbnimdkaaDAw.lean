/- What is the same for every program: the arena of 'awake'. -/
import Derived.Test.YtnpamcgbnimdkaaDTrees
import Derived.Test.YtnpamcgbnimdkaaDInts
import Derived.Test.YtnpamcgbnimdkaaDPlace
namespace Go.Proofs.Ytnpamcgbnimdkaa.DAw
open Go.RowKit Go.Proofs.Ytnpamcgbnimdkaa.TBase Go.Proofs.Ytnpamcgbnimdkaa.TPure Go.Proofs.Ytnpamcgbnimdkaa.TMay Go.Proofs.Ytnpamcgbnimdkaa.TVisit Go.Proofs.Ytnpamcgbnimdkaa.TMeas Go.Proofs.Ytnpamcgbnimdkaa.DBase Go.Proofs.Ytnpamcgbnimdkaa.DJoin Go.Proofs.Ytnpamcgbnimdkaa.DLink Go.Proofs.Ytnpamcgbnimdkaa.DNeed Go.Proofs.Ytnpamcgbnimdkaa.DKids Go.Proofs.Ytnpamcgbnimdkaa.DAsk Go.Proofs.Ytnpamcgbnimdkaa.DCell Go.Proofs.Ytnpamcgbnimdkaa.DNew Go.Proofs.Ytnpamcgbnimdkaa.DArena Go.Proofs.Ytnpamcgbnimdkaa.DBuild Go.Proofs.Ytnpamcgbnimdkaa.DMake Go.Proofs.Ytnpamcgbnimdkaa.DPlace Go.Proofs.Ytnpamcgbnimdkaa.DTrees
set_option linter.unusedVariables false

def V0 : Nat → Value := fun _ => .slice none 0 0
/-- The handles from k down, m of them. -/
def dnN : Nat → Nat → List Nat
  | _, 0 => []
  | k, m + 1 => k :: dnN (k - 1) m
theorem hl_dnN : ∀ (m k : Nat), hl (dnN k m) = dn k m
  | 0, k => rfl
  | m + 1, k => by rw [dn, ← hl_dnN m (k - 1)]; rfl
theorem dnN_mem : ∀ (m k : Nat), ∀ h ∈ dnN k m, h ≤ k
  | 0, k, h, hh => by cases hh
  | m + 1, k, h, hh => by
    rcases List.mem_cons.1 hh with rfl | hh
    · exact Nat.le_refl _
    · have := dnN_mem m (k - 1) h hh
      omega
/-- A new arena. -/
def S0 (r : Nat) : St := ⟨up (fun _ => zN) 0 rootN, fun _ => [], (dnN (r - 1) (r - 1)).reverse⟩
theorem ar_new {w w' : World} {r p gc : Nat} {fv : Value} (h1 : 1 ≤ r) (h2 : r ≤ 8192) (hb : Bx w' p gc r fv (fun _ => 0)) (hc : Cr w' gc r (up (fun _ => zN) 0 rootN)) (ho : Oi w' w.heap.size fv (dn (r - 1) (r - 1))) (hp : w.heap.size ≤ p) (hg : w.heap.size ≤ gc) : Ar w' w.heap.size p gc r (fun _ => 0) (S0 r) fv V0 := by
  refine ⟨hb, ?_, ?_, fun k hk => World.ownsRow_nil _ _ _ _, (fun j k _ _ _ b hb => by cases hb), hp, hg, h2, fun h hh => ?_, fun k => ?_⟩
  · have e : mp V0 (up (fun _ => zN) 0 rootN) = up (fun _ => zN) 0 rootN := by
      funext k
      simp only [mp, up]
      split <;> rfl
    show Cr w' gc r (mp V0 (up (fun _ => zN) 0 rootN))
    rw [e]
    exact hc
  · show Oi w' w.heap.size fv (hl (dnN (r - 1) (r - 1)).reverse.reverse)
    rw [List.reverse_reverse, hl_dnN]
    exact ho
  · have := dnN_mem _ _ h (List.mem_reverse.1 hh)
    omega
  · show Ok r (up (fun _ => zN) 0 rootN k).la
    simp only [up]
    split
    · exact fun j e => by cases e
    · exact fun j e => by cases e; omega
def ta : T := .mk ⟨#[]⟩ ⟨#[97]⟩ [] []
def tp : T := .mk ⟨#[112]⟩ ⟨#[]⟩ [] [ta]
theorem aa : alone ta = true := by kernel_rfl
theorem ap : alone tp = true := by kernel_rfl
theorem fl (c : T) (d k : Nat) (h1 : k ≤ 4096) (h2 : d ≤ 64) (h : alone c = true) : flt c d k = 0 := by
  unfold flt
  rw [if_neg (by omega), if_neg (by omega), if_pos h]
theorem ckp : ck [tp] = 0 := by
  have e1 : vis tp.l 2 1 1 = (2, 2, 0) := by
    show vis [ta] 2 1 1 = _
    have ex : vis ta.l 3 2 2 = (2, 2, 0) := vis_nil _ _ _
    rw [vis_cons, if_pos (fl _ _ _ (by omega) (by omega) aa), show max 1 2 = 2 by rfl, show 1 + 1 = 2 by rfl, show 2 + 1 = 3 by rfl, ex, if_pos rfl, vis_nil]
  unfold ck
  rw [vis_cons, if_pos (fl _ _ _ (by omega) (by omega) ap), show max 0 1 = 1 by rfl, show 1 + 1 = 2 by rfl, show 0 + 1 = 1 by rfl, e1, if_pos rfl, vis_nil]
theorem np : nds [tp] = 2 := by
  rw [nds_cons]
  show 1 + nds [ta] + nds [] = 2
  rw [nds_cons]
  show 1 + (1 + nds [] + nds []) + nds [] = 2
  rw [nds]
/-- What it holds behind Build. -/
def S1 : St := ⟨lk (tk (tk (S0 4) tp) ta).a 1 2 none, (tk (tk (S0 4) tp) ta).A, [3]⟩
theorem s1 : bld tp (S0 4) = S1 := by
  rw [bld]
  show bldL [ta] 1 (tk (S0 4) tp) = _
  rw [bldL_cons, bldL_nil]
  have e : bld ta (tk (S0 4) tp) = tk (tk (S0 4) tp) ta := by
    rw [bld]
    exact bldL_nil _ _
  unfold kid
  rw [e]
  rfl
/-- And behind Place. -/
def S2 : St := ⟨lk S1.a 0 1 none, S1.A, S1.L⟩
theorem bc : bC tp (S0 4) = 0 := by
  rw [bC, if_pos ckp, np]
  rfl
theorem pl : plC S1.a 0 1 none [0] = 0 := by kernel_rfl
theorem t2 : Tr S2.a S2.A 4 3 0 [tp] := by
  refine ⟨[1], ⟨rfl, by omega, rfl⟩, by simp, rfl, fun j h h' => ?_⟩
  obtain rfl : j = 0 := by simpa using h
  refine ⟨[ta], rfl, ⟨[2], ⟨rfl, by omega, rfl⟩, by simp, rfl, fun j h h' => ?_⟩⟩
  obtain rfl : j = 0 := by simpa using h
  exact ⟨[], rfl, ⟨[], rfl, by simp, rfl, fun j h => by simp at h⟩⟩
theorem bd2 : Bd S2 := by
  intro k
  match k with
  | 0 => exact ⟨by decide, by decide, by simp [show S2.A 0 = [] from rfl], by simp [show S2.A 0 = [] from rfl]⟩
  | 1 => exact ⟨by decide, by decide, by simp [show S2.A 1 = [] from rfl], by simp [show S2.A 1 = [] from rfl]⟩
  | 2 => exact ⟨by decide, by decide, by simp [show S2.A 2 = [] from rfl], by simp [show S2.A 2 = [] from rfl]⟩
  | k + 3 => exact ⟨Nat.zero_le _, Nat.zero_le _, by simp [show S2.A (k + 3) = [] from rfl], by simp [show S2.A (k + 3) = [] from rfl]⟩
set_option maxRecDepth 20000 in
theorem Forest_c {w : World} {B p gc n : Nat} {q : Nat → Int} {s : St} {fv : Value} {V : Nat → Value} (har : Ar w B p gc n q s fv V) (hbd : Bd s) (h0 : 0 < n) (hlv : (s.a 0).lv = true) {m : Nat} {ts : List T} (ht : Tr s.a s.A n m 0 ts) :
    Calls Try.prog 28 #[.pointer (some ⟨p, 0, none⟩)] w fun e w' => ∃ v, e = .returned v ∧ InL false (Rg w.heap.size w'.heap.size) w' m v ts ∧ Below w.heap.size w w' := by
  obtain ⟨W1, hW1⟩ : ∃ W1, w.alloc (.cells #[.int .i64 0] 3) = W1 := ⟨_, rfl⟩
  have b1 : Below w.heap.size w W1 := by rw [← hW1]; exact (Below.refl _ w).alloc (Nat.le_refl _) _
  have A1 := har.below b1
  have ho : Oi W1 w.heap.size (.slice (some ⟨w.heap.size, 0, none⟩) 1 1) [0] := by rw [← hW1]; exact DNil.one_oi w 0
  have c54 := need_c A1.bx A1.cr A1.hn ho.hs
  have hnd : nd (mp V s.a) n [0] = 0 := by
    have : live (mp V s.a) n 0 = true := by
      simp only [live]
      have e : (mp V s.a (0 : Int).toNat).lv = true := hlv
      rw [e]
      simp
      omega
    unfold nd
    simp [this]
  rw [hnd] at c54
  have c66 := trs m 0 ts W1 B p gc n q s fv V A1 hbd h0 ht
  have HW1 : Hid (w.alloc (.cells #[.int .i64 0] 3) = W1) := hW1
  have hs1 := b1.size
  clear hW1 A1 ho har hbd ht hnd hlv
  go_enter Try.func28, Try.ntmps28
  go_wp2_with (first
    | (rw [HW1.out]; go_at_call 54; refine c54.mono ?_; rintro e w2 ⟨rfl, rfl⟩; clear c54)
    | (go_at_call 66; refine c66.mono ?_; rintro e w3 ⟨v3, rfl, hv, b3⟩))
  go_ret
  exact ⟨_, rfl, hv.weak (fun b hb => ⟨by have := hb.1; omega, hb.2⟩) false id m (Nat.le_refl _), b1.trans (b3.mono hs1)⟩
theorem num_c (x : Int) (w : World) : Calls Try.prog 25 #[.int .i64 x] w fun e w' => e = .returned (.int .i64 x) ∧ w = w' := by
  go_enter Try.func25, Try.ntmps25
  go_wp2_with fail
  go_ret
  exact ⟨rfl, rfl⟩
end Go.Proofs.Ytnpamcgbnimdkaa.DAw

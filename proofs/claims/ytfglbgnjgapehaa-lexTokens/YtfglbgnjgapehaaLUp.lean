/- Templates: contract of upTo. -/
import Derived.Test.YtfglbgnjgapehaaLNm
import Derived.Lib.IndexMore
import Derived.BigQuiet
namespace Go.Proofs.Ytfglbgnjgapehaa.LUp
open Go.RowKit Go.Proofs.Ytfglbgnjgapehaa.UBase Go.Proofs.Ytfglbgnjgapehaa.EPure Go.Proofs.Ytfglbgnjgapehaa.LPure Go.Proofs.Ytfglbgnjgapehaa.LRd Go.Proofs.Ytfglbgnjgapehaa.LSk Go.Proofs.Ytfglbgnjgapehaa.LNm
set_option linter.unusedVariables false

/-- How far on such a sign stands. -/
def ux (s : ByteArray) (i : Nat) (x : List UInt8) : Int := Lib.index (s.extract i s.size).data.toList x
/-- What stands ahead of it. -/
def utx (s : ByteArray) (i : Nat) (x : List UInt8) : ByteArray := if 0 ≤ ux s i x then sub s i (i + (ux s i x).toNat) else ⟨#[]⟩
/-- The place behind it. -/
def upl (s : ByteArray) (i : Nat) (x : List UInt8) : Nat := if 0 ≤ ux s i x then i + (ux s i x).toNat + x.length else i
theorem ux_room {s : ByteArray} {i : Nat} {x : List UInt8} (hi : i ≤ s.size) (h : 0 ≤ ux s i x) : i + (ux s i x).toNat + x.length ≤ s.size := by
  have := Lib.index_room (s.extract i s.size).data.toList x h
  have e : (s.extract i s.size).data.toList.length = s.size - i := by
    show (s.extract i s.size).data.size = _
    rw [show (s.extract i s.size).data.size = (s.extract i s.size).size from rfl, ByteArray.size_extract]
    omega
  rw [e] at this
  unfold ux at h ⊢
  omega
theorem take_sub {s : ByteArray} {i k : Nat} (h : i + k ≤ s.size) : (⟨((s.extract i s.size).data.toList.take k).toArray⟩ : ByteArray) = sub s i (i + k) := by
  unfold sub
  apply ByteArray.ext
  rw [ByteArray.data_extract, ByteArray.data_extract]
  apply Array.ext'
  simp only [Array.toList_extract, List.extract_eq_take_drop, List.take_take]
  congr 1
  have : s.data.size = s.size := rfl
  omega
theorem cut_t {s : ByteArray} {i : Nat} {x : List UInt8} (hi : i ≤ s.size) (h : 0 ≤ ux s i x) : ∃ y, Lib.cut (s.extract i s.size).data.toList x = (((sub s i (i + (ux s i x).toNat)).data.toList), y, true) := by
  have hr := ux_room hi h
  refine ⟨(s.extract i s.size).data.toList.drop ((ux s i x).toNat + x.length), ?_⟩
  rw [← take_sub (show i + (ux s i x).toNat ≤ s.size by omega)]
  unfold Lib.cut
  unfold ux at h ⊢
  rw [if_pos h]
theorem cut_f {s : ByteArray} {i : Nat} {x : List UInt8} (h : ¬ 0 ≤ ux s i x) : Lib.cut (s.extract i s.size).data.toList x = ((s.extract i s.size).data.toList, [], false) := by
  unfold Lib.cut
  unfold ux at h
  rw [if_neg h]
theorem arr_text (s : ByteArray) : (⟨s.data.toList.toArray⟩ : ByteArray) = s := by
  apply ByteArray.ext
  simp
set_option maxRecDepth 20000 in
set_option maxHeartbeats 1600000 in
theorem upTo_c {w : World} {R : Nat} {s : ByteArray} {i : Nat} {b : Bool} {f : F} (h : Lr w R s i b f) (x : List UInt8) (e' : F) (m : Int) (hm : w.cell? ⟨0, 0, none⟩ = some (.int .i64 m)) (hx : x.length ≤ 65536) :
    Calls Try.prog 57 #[ptr R, .string ⟨x.toArray⟩, .agg #[.int .i64 e'.1, .int .i64 e'.2]] w fun e w' => e = .returned (.string (utx s i x)) ∧ Lr w' R s (upl s i x) b (fif (decide (0 ≤ ux s i x)) f e') ∧ Kr R w w' := by
  obtain ⟨W0, hW0⟩ : ∃ W0, w.alloc (.cells #[.int .i64 e'.1, .int .i64 e'.2] 41) = W0 := ⟨_, rfl⟩
  have b0 : Below w.heap.size w W0 := by rw [← hW0]; exact (Below.refl _ w).alloc (Nat.le_refl _) _
  have hlt := h.lt
  have hx0 : W0.heap[w.heap.size]? = some (.cells #[.int .i64 e'.1, .int .i64 e'.2] 41 (0, 0)) := by rw [← hW0]; exact heap_alloc_new w _
  have h0 := h.low b0
  have hK0 : Kr R w W0 := Kr.of_below b0 (by omega)
  have hm0 : W0.cell? ⟨0, 0, none⟩ = some (.int .i64 m) := by
    have : W0.heap[0]? = w.heap[0]? := b0.block 0 (by omega)
    rw [World.cell?, this]
    exact hm
  have hla := h.la
  have hsz := h.sz
  have hes : (s.extract i s.size).size < 4294967281 := by rw [ByteArray.size_extract]; omega
  have cC := fun n => Try.strings_Cut (s.extract i s.size) ⟨x.toArray⟩ m (W0.drewN n) hes hm0
  have hxs : (⟨x.toArray⟩ : ByteArray).size = x.length := by show x.toArray.size = _; simp
  have hxl : (⟨x.toArray⟩ : ByteArray).data.toList = x := by simp
  rw [hxl] at cC
  obtain ⟨y0, y1⟩ := two_box hx0
  obtain ⟨k0, k1, k2, k3, k4⟩ := h0.cells
  have f1 := h0.free 1
  have hne : w.heap.size ≠ R := by omega
  by_cases hu : 0 ≤ ux s i x
  · obtain ⟨y, hy⟩ := cut_t hla hu
    have hr := ux_room hla hu
    rw [hy] at cC
    simp only [arr_text] at cC
    obtain ⟨k, hk⟩ : ∃ k, (ux s i x).toNat = k := ⟨_, rfl⟩
    have HU : Hid (utx s i x = sub s i (i + k) ∧ upl s i x = i + (k + x.length) ∧ fif (decide (0 ≤ ux s i x)) f e' = f) := by
      refine ⟨?_, ?_, ?_⟩
      · unfold utx; rw [if_pos hu, hk]
      · unfold upl; rw [if_pos hu, hk]; omega
      · rw [decide_eq_true hu, fif_t]
    rw [hk] at cC hr
    have hbs : (sub s i (i + k)).size = k := by unfold sub; rw [ByteArray.size_extract]; omega
    obtain ⟨T, hT⟩ : ∃ T, sub s i (i + k) = T := ⟨_, rfl⟩
    rw [hT] at cC hbs
    have HT : Hid (sub s i (i + k) = T) := hT
    have HR : Hid (∀ n, Lr ((W0.drewN n).setCell ⟨R, 1, none⟩ (.int .i64 ((i : Int) + ((k : Int) + (x.length : Int))))) R s (i + (k + x.length)) b f ∧ Kr R w ((W0.drewN n).setCell ⟨R, 1, none⟩ (.int .i64 ((i : Int) + ((k : Int) + (x.length : Int)))))) := fun n => by
      refine ⟨?_, (hK0.drewN n).set 1 _⟩
      have := (h0.drewN n).go (i + (k + x.length)) (by omega)
      rwa [show ((i + (k + x.length) : Nat) : Int) = (i : Int) + ((k : Int) + (x.length : Int)) by omega] at this
    unfold ptr
    clear h h0 b0 hx0 hK0 hm0 hm hy hu hk hT
    go_enter Try.func57, Try.ntmps57
    go_wp2_with fail
    go_quiet (first | (go_at_call 69; exact Calls.quiet_of (cC _)))
    go_wp2_with fail
    go_ret
    rw [HU.out.1, HU.out.2.1, HU.out.2.2, HT.out]
    exact ⟨rfl, HR.out _⟩
  · rw [cut_f hu] at cC
    simp only [arr_text] at cC
    have HU : Hid (utx s i x = ⟨#[]⟩ ∧ upl s i x = i ∧ fif (decide (0 ≤ ux s i x)) f e' = rf f e') := by
      refine ⟨?_, ?_, ?_⟩
      · unfold utx; rw [if_neg hu]
      · unfold upl; rw [if_neg hu]
      · rw [decide_eq_false hu, fif_f]
    have cR := fun n => refuse_c (h0.drewN n) e'
    have HK : Hid (Kr R w W0) := hK0
    unfold ptr at cR ⊢
    clear h h0 b0 hx0 hK0 hm0 hm hu
    go_enter Try.func57, Try.ntmps57
    go_wp2_with fail
    go_quiet (first | (go_at_call 69; exact Calls.quiet_of (cC _)))
    go_wp2_with fail
    refine (cR _).mono ?_
    rintro e w1 ⟨⟨r, rfl⟩, h1, k1'⟩
    have H1 : Hid (Lr w1 R s i b (rf f e') ∧ Kr R w w1) := ⟨h1, (HK.out.drewN _).trans k1'⟩
    clear cR h1 k1'
    go_wp2_with fail
    go_ret
    rw [HU.out.1, HU.out.2.1, HU.out.2.2]
    exact ⟨rfl, H1.out⟩
end Go.Proofs.Ytfglbgnjgapehaa.LUp

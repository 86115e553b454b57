/- Expressions reckoned: what an answer is in memory. -/
import Derived.Test.YtpaigpijaifeoaaGreatDoorVJn
import Derived.Test.YtpaigpijaifeoaaGreatDoorXBase
namespace Go.Proofs.YtpaigpijaifeoaaGreatDoor.VRs
open Go.RowKit Go.Proofs.YtpaigpijaifeoaaGreatDoor.Base Go.Proofs.YtpaigpijaifeoaaGreatDoor.EPure Go.Proofs.YtpaigpijaifeoaaGreatDoor.VPure Go.Proofs.YtpaigpijaifeoaaGreatDoor.VSm Go.Proofs.YtpaigpijaifeoaaGreatDoor.VIn Go.Proofs.YtpaigpijaifeoaaGreatDoor.VJn Go.Proofs.YtpaigpijaifeoaaGreatDoor.Sums
set_option linter.unusedVariables false

/-- A value handed out (its lists in blocks below K), or an error thrown. -/
def VR (K m : Nat) (w : World) (a : Ans) (e : Ending) (w' : World) : Prop := Below w.heap.size w w' ∧ match a with
  | .ok c => ∃ u, e = .returned u ∧ Base.In false (fun b => b < K) w' m u c
  | .error n => e = .panicked (pkE n)
theorem VR.trans {K m : Nat} {w w1 w' : World} {a : Ans} {e : Ending} (hb : Below w.heap.size w w1) (h : VR K m w1 a e w') : VR K m w a e w' := ⟨hb.trans (h.1.mono hb.size), h.2⟩
theorem in_low {K m : Nat} {w w' : World} {u : Value} {c : C} (h : Base.In false (fun b => b < K) w m u c) (hb : Below K w w') : Base.In false (fun b => b < K) w' m u c := h.keep fun b hb' _ => hb.block b hb'
theorem in_v0 (S : Nat → Prop) (w : World) (m : Nat) {k i : Int} (b : Bool) {s : ByteArray} (hk : -9223372036854775808 ≤ k ∧ k ≤ 9223372036854775807) (hi : -9223372036854775808 ≤ i ∧ i ≤ 9223372036854775807) (hs : s.size ≤ 140737488351232) :
    Base.In false S w (m + 1) (v0 k b i s) (.mk k b i s [] []) := by
  rw [Base.in_iff]
  refine ⟨_, _, rfl, hk, hi, hs, ⟨none, 0, rfl, Nat.le_refl _, Nat.zero_le _, by simp, by simp, fun _ => rfl, .inl ⟨rfl, rfl⟩⟩, none, 0, rfl, Nat.le_refl _, Nat.zero_le _, by simp, fun _ => rfl, .inl ⟨rfl, rfl⟩⟩
theorem in_int (S : Nat → Prop) (w : World) (m : Nat) {i : Int} (hi : -9223372036854775808 ≤ i ∧ i ≤ 9223372036854775807) : Base.In false S w (m + 1) (v0 3 false i ⟨#[]⟩) (intC i) := in_v0 S w m false (by omega) hi (by decide)
theorem in_boo (S : Nat → Prop) (w : World) (m : Nat) (b : Bool) : Base.In false S w (m + 1) (v0 2 b 0 ⟨#[]⟩) (booC b) := in_v0 S w m b (by omega) (by omega) (by decide)
theorem in_str (S : Nat → Prop) (w : World) (m : Nat) {s : ByteArray} (hs : s.size ≤ 140737488351232) : Base.In false S w (m + 1) (v0 4 false 0 s) (strC s) := in_v0 S w m false (by omega) (by omega) hs
theorem in_nul (S : Nat → Prop) (w : World) (m : Nat) : Base.In false S w (m + 1) (v0 1 false 0 ⟨#[]⟩) nulC := in_v0 S w m false (by omega) (by omega) (by decide)
theorem in_zer (S : Nat → Prop) (w : World) (m : Nat) : Base.In false S w (m + 1) (v0 0 false 0 ⟨#[]⟩) zerC := in_v0 S w m false (by omega) (by omega) (by decide)
theorem wh_rng {o x y : Int} (hx : -9223372036854775808 ≤ x ∧ x ≤ 9223372036854775807) : -9223372036854775808 ≤ (wh o x y).1 ∧ (wh o x y).1 ≤ 9223372036854775807 := by
  unfold wh
  have hn : ∀ z : Int, -9223372036854775808 ≤ num z ∧ num z ≤ 9223372036854775807 := fun z => ⟨num_ge z, num_le z⟩
  repeat' split
  all_goals first
    | exact hn _
    | (unfold WhA.dnum; split; (omega); exact hn _)
    | (unfold WhA.mnum; split; (omega); exact WhA.tmod_range _ hx.1 hx.2)
    | exact WhA.div_range hx.1 hx.2 (Int.pow_pos (by omega))
    | (exact ⟨by omega, by omega⟩)
/-- pair at an operation of two integers. -/
theorem an_vr {K m : Nat} {w w' : World} {e : Ending} {a : Except Nat Int} (hr : ∀ c, a = .ok c → -9223372036854775808 ≤ c ∧ c ≤ 9223372036854775807) (h : An w w' e (fun c : Int => v0 3 false c ⟨#[]⟩) a) : VR K (m + 1) w (mapI a) e w' := by
  cases a with
  | error n => exact ⟨h.2, h.1⟩
  | ok c => exact ⟨h.2, _, h.1, in_int _ w' m (hr c rfl)⟩
theorem tw_ok {k1 k2 x e0 c : Int} (h : twI k1 k2 x e0 = .ok c) : c = x := by
  unfold twI chkI at h
  repeat' split at h
  all_goals first | (injection h with h; exact h.symm) | (cases h)
theorem in_shape {S : Nat → Prop} {w : World} {m : Nat} {u : Value} {c : C} (h : Base.In false S w m u c) : ∃ an ln cn al ll cl, u = vl c.k c.b c.i c.s (.slice an ln cn) (.slice al ll cl) := by
  obtain ⟨m', nv, lv, -, hu, -, -, -, hn, hl⟩ := h.shape
  obtain ⟨an, cn, rfl, -⟩ := hn
  obtain ⟨al, cl, rfl, -⟩ := hl
  exact ⟨an, _, cn, al, _, cl, hu⟩
theorem in_rng {S : Nat → Prop} {w : World} {m : Nat} {u : Value} {c : C} (h : Base.In false S w m u c) : -9223372036854775808 ≤ c.i ∧ c.i ≤ 9223372036854775807 := by
  obtain ⟨m', nv, lv, -, hu, -, hi, -, -, -⟩ := h.shape
  exact hi
end Go.Proofs.YtpaigpijaifeoaaGreatDoor.VRs

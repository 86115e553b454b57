/- The reference's lexer: blanks, signs, what a text stands for. -/
import Derived.Test.YtfglbgnjgapehaaRLd
namespace Go.Proofs.Ytfglbgnjgapehaa.RBl
open Go.RowKit Go.Proofs.Ytfglbgnjgapehaa.UBase Go.Proofs.Ytfglbgnjgapehaa.EPure Go.Proofs.Ytfglbgnjgapehaa.LPure Go.Proofs.Ytfglbgnjgapehaa.LRd Go.Proofs.Ytfglbgnjgapehaa.LSk Go.Proofs.Ytfglbgnjgapehaa.LNm Go.Proofs.Ytfglbgnjgapehaa.LSc Go.Proofs.Ytfglbgnjgapehaa.LIn Go.Proofs.Ytfglbgnjgapehaa.LMu Go.Proofs.Ytfglbgnjgapehaa.LCv Go.Proofs.Ytfglbgnjgapehaa.RLd
set_option linter.unusedVariables false

theorem plr_of {w : World} {R : Nat} {s : ByteArray} {a : Nat} {ov : Value} {f : F} (h : Rl w R s a ov f) : plc R w = a := by
  unfold plc
  rw [h.cells.2.1]
  simp
set_option maxRecDepth 20000 in
set_option maxHeartbeats 1600000 in
theorem blanks_c {w : World} {R : Nat} {s : ByteArray} {i : Nat} {ov : Value} {f : F} (h : Rl w R s i ov f) :
    Calls Try.prog 30 #[ptr R] w fun r w' => r = .returned (.int .i64 ((skp isb s i : Int) - i)) ∧ Rl w' R s (skp isb s i) ov f ∧ Kr R w w' := by
  obtain ⟨k0, k1, k2, k3, k4⟩ := h.cells
  have hsz := h.sz
  have hla := h.la
  have hXa := skp_ge isb s i
  have hXs : skp isb s i ≤ s.size := skp_in hla
  obtain ⟨X, HX⟩ : ∃ X, Hid (skp isb s i = X) := ⟨_, rfl⟩
  rw [HX.out] at hXa hXs ⊢
  have HE : Hid (Rl w R s i ov f) := h
  clear h
  unfold ptr
  go_enter Try.func30, Try.ntmps30
  go_wp2_with fail
  go_loopw [] (fun wr => ∃ j : Nat, i ≤ j ∧ skp isb s j = X ∧ Rl wr R s j ov f ∧ Kr R w wr) (fun wr => s.size - plc R wr)
  case atStart => exact ⟨i, Nat.le_refl _, HX.out, HE.out, Kr.refl _ _⟩
  case round =>
    clear HX HE k0 k1 k2 k3 k4
    obtain ⟨j, hij, hj, hE, hK⟩ := hrel
    obtain ⟨k0, k1, k2, k3, k4⟩ := hE.cells
    have f1 := hE.free 1
    have hlj := hE.la
    have HM : Hid (plc R wr = j) := plr_of hE
    have HE : Hid (∀ m, Rl (wr.drewN m) R s j ov f) := fun m => hE.drewN m
    by_cases hjl : j < s.size
    · have d0 : decide ((j : Int) < (s.size : Int)) = true := decide_eq_true (by omega)
      obtain ⟨y, hy⟩ : ∃ y, (s[j]'hjl).toNat = y := ⟨_, rfl⟩
      have hya : at' s j = y := by rw [← hy]; exact at_get s j hjl
      have cB := fun W => blank_c y W
      by_cases hp : isb y = true
      · have HJ : Hid (∀ m, Rl ((wr.drewN m).setCell ⟨R, 1, none⟩ (.int .i64 ((j : Int) + 1))) R s (j + 1) ov f) := fun m => by
          have := (hE.drewN m).go (j + 1) (by omega)
          rwa [show ((j + 1 : Nat) : Int) = (j : Int) + 1 from by omega] at this
        have HS : Hid (skp isb s (j + 1) = X) := by
          show _ = _
          rw [← hj, skp_step hjl (by rw [hya]; exact hp)]
        rw [hp] at cB
        clear hE hj hya hp
        go_wp2_with fail
        go_quiet (first | (go_at_call 48; exact Calls.quiet_of_same (cB _)))
        go_wp2_with fail
        go_roundw
        case rel => exact ⟨j + 1, by omega, HS.out, HJ.out nq, (hK.drewN nq).set 1 _⟩
        case measure =>
          show s.size - plc R _ < s.size - plc R wr
          rw [plr_of (HJ.out nq), HM.out]
          omega
      · have hpf : isb y = false := by simpa using hp
        have hjX : j = X := by rw [← hj, skp_stop (by rw [hya]; simp [hpf])]
        subst hjX
        rw [hpf] at cB
        clear hE hj hya hp hpf
        go_wp2_with fail
        go_quiet (first | (go_at_call 48; exact Calls.quiet_of_same (cB _)))
        obtain ⟨k0, k1, k2, k3, k4⟩ := (HE.out nq).cells
        go_wp2_with fail
        go_ret
        exact ⟨rfl, HE.out nq, hK.drewN nq⟩
    · have d0 : decide ((j : Int) < (s.size : Int)) = false := decide_eq_false (by omega)
      have hjX : j = X := by rw [← hj, skp_stop (by simp [hjl])]
      subst hjX
      have cB := fun W => blank_c 0 W
      clear hE hj
      go_wp2_with fail
      go_quiet (first | (go_at_call 48; exact Calls.quiet_of_same (cB _)))
      obtain ⟨k0, k1, k2, k3, k4⟩ := (HE.out nq).cells
      go_wp2_with fail
      go_ret
      exact ⟨rfl, HE.out nq, hK.drewN nq⟩
theorem must_c {w : World} {R : Nat} {s : ByteArray} {i : Nat} {ov : Value} {f : F} (h : Rl w R s i ov f) (c : UInt8) :
    Calls Try.prog 31 #[ptr R, .string ⟨#[c]⟩] w fun r w' => (∃ v, r = .returned v) ∧ Rl w' R s (mpl s [c] i) ov (fif (pre s i [c]) f (1202, i)) ∧ Kr R w w' := by
  have ch := here_c h ⟨#[c]⟩ (by show (1 : Nat) ≤ 16; omega)
  have e : (⟨#[c]⟩ : ByteArray).data.toList = [c] := rfl
  rw [e] at ch
  have hla := h.la
  have hsz := h.sz
  by_cases hp : pre s i [c] = true
  · have hr : i + 1 ≤ s.size := ((pre_iff _ _ _).1 hp).1
    rw [hp] at ch ⊢
    rw [mpl_t hp, show ([c] : List UInt8).length = 1 from rfl]
    have HJ : Hid (∀ m, Rl ((w.drewN m).setCell ⟨R, 1, none⟩ (.int .i64 ((i : Int) + 1))) R s (i + 1) ov f) := fun m => by
      have := (h.drewN m).go (i + 1) hr
      rwa [show ((i + 1 : Nat) : Int) = (i : Int) + 1 from by omega] at this
    have HE : Hid (∀ m, Rl (w.drewN m) R s i ov f) := fun m => h.drewN m
    clear h hp
    unfold ptr at *
    go_enter Try.func31, Try.ntmps31
    go_wp2_with fail
    refine ch.mono ?_
    rintro e w1 ⟨rfl, n, rfl⟩
    obtain ⟨k0, k1, k2, k3, k4⟩ := (HE.out n).cells
    have f1 := (HE.out n).free 1
    go_wp2_with fail
    go_end0
    exact ⟨⟨_, rfl⟩, HJ.out n, ((Kr.refl R w).drewN n).set 1 _⟩
  · have hp : pre s i [c] = false := by simpa using hp
    rw [hp] at ch ⊢
    have hm : mpl s [c] i = i := by unfold mpl; rw [if_neg (by rw [hp]; decide)]
    rw [hm, fif_f]
    have HE : Hid (∀ m, Rl (w.drewN m) R s i ov f) := fun m => h.drewN m
    clear h hp hm
    unfold ptr at *
    go_enter Try.func31, Try.ntmps31
    go_wp2_with fail
    refine ch.mono ?_
    rintro e w1 ⟨rfl, n, rfl⟩
    obtain ⟨k0, k1, k2, k3, k4⟩ := (HE.out n).cells
    have cf := fail_c (HE.out n) (1202, i)
    go_wp2_with fail
    refine cf.mono ?_
    rintro e w2 ⟨⟨v, rfl⟩, hE2, hk2⟩
    go_wp2_with fail
    refine bodyPost_ret (results_none rfl _ _ _) rfl ?_
    exact ⟨⟨_, rfl⟩, hE2, ((Kr.refl R w).drewN n).trans hk2⟩
theorem plain_c {w : World} {R : Nat} {s : ByteArray} {i : Nat} {ov : Value} {f : F} (h : Rl w R s i ov f) (fr st : Nat) (t : ByteArray) (b : Bool) (hf : fr ≤ 65536) (ht : t.size ≤ 65536) :
    Calls Try.prog 34 #[ptr R, .int .i64 fr, .string t, .int .i64 st, .bool b] w fun r w' => r = .returned (.string (HBase.ptext t)) ∧
      Rl w' R s i ov (fif (!b || decide ((HBase.ptext t).size ≤ 4096)) (fif (HBase.perr t == 0) f (1204, fr + HBase.pat t)) (1201, st)) ∧ Kr R w w' := by
  have cp := HRplain.rplain_c t (by omega) w
  have hpi := pat_in t
  have HE : Hid (∀ w1, Below w.heap.size w w1 → Rl w1 R s i ov f) := fun w1 hb => h.keep (hb.block _ h.lt)
  have hlt := h.lt
  clear h
  generalize HBase.ptext t = T at *
  generalize HBase.pat t = P at *
  generalize HBase.perr t = E at *
  obtain ⟨U, HU⟩ : ∃ U, Hid (fif (!b || decide (T.size ≤ 4096)) (fif (E == 0) f (1204, fr + P)) (1201, st) = U) := ⟨_, rfl⟩
  rw [HU.out]
  unfold ptr at *
  go_enter Try.func34, Try.ntmps34
  go_wp2_with fail
  refine cp.mono ?_
  rintro e w1 ⟨rfl, hb1⟩
  have h1 := HE.out w1 hb1
  have hk1 : Kr R w w1 := Kr.of_below hb1 (Nat.le_of_lt hlt)
  clear HE cp hb1
  have hU := HU.out
  clear HU
  by_cases he : E = 0
  · have d : ((E : Int) != 0) = false := by simp [he]
    have d' : (E == 0) = true := by simp [he]
    rw [d', fif_t] at hU
    by_cases hb : b = true ∧ ¬ T.size ≤ 4096
    · obtain ⟨rfl, hb⟩ := hb
      have e1 : decide ((4096 : Int) < (T.size : Int)) = true := decide_eq_true (by omega)
      rw [decide_eq_false hb, show (!true || false) = false from rfl, fif_f] at hU
      subst hU
      have cf := fail_c h1 (1201, st)
      clear he d'
      go_wp2_with fail
      refine cf.mono ?_
      rintro e w2 ⟨⟨v, rfl⟩, hE2, hk2⟩
      go_wp2_with fail
      go_ret
      exact ⟨rfl, hE2, hk1.trans hk2⟩
    · have e0 : (!b || decide (T.size ≤ 4096)) = true := by
        cases b with
        | false => rfl
        | true => have : T.size ≤ 4096 := by simpa using hb
                  simp [this]
      rw [e0, fif_t] at hU
      subst hU
      cases b with
      | false =>
        clear he d' hb e0
        go_wp2_with fail
        go_ret
        exact ⟨rfl, h1, hk1⟩
      | true =>
        have hle : T.size ≤ 4096 := by simpa using hb
        have e1 : decide ((4096 : Int) < (T.size : Int)) = false := decide_eq_false (by omega)
        clear he d' hb e0
        go_wp2_with fail
        go_ret
        exact ⟨rfl, h1, hk1⟩
  · have d : ((E : Int) != 0) = true := by simp; omega
    have d' : (E == 0) = false := by simp [he]
    rw [d', fif_f] at hU
    have cf := fail_c h1 (1204, fr + P)
    have ef : ((fr + P : Nat) : Int) = (fr : Int) + (P : Int) := by omega
    simp only [ef] at cf
    by_cases hb : b = true ∧ ¬ T.size ≤ 4096
    · obtain ⟨rfl, hb⟩ := hb
      have e1 : decide ((4096 : Int) < (T.size : Int)) = true := decide_eq_true (by omega)
      rw [decide_eq_false hb, show (!true || false) = false from rfl, fif_f] at hU
      subst hU
      clear he d'
      go_wp2_with fail
      refine cf.mono ?_
      rintro e w2 ⟨⟨v, rfl⟩, hE2, hk2⟩
      have cf2 := fail_c hE2 (1201, st)
      go_wp2_with fail
      refine cf2.mono ?_
      rintro e w3 ⟨⟨v, rfl⟩, hE3, hk3⟩
      go_wp2_with fail
      go_ret
      exact ⟨rfl, hE3, (hk1.trans hk2).trans hk3⟩
    · have e0 : (!b || decide (T.size ≤ 4096)) = true := by
        cases b with
        | false => rfl
        | true => have : T.size ≤ 4096 := by simpa using hb
                  simp [this]
      rw [e0, fif_t] at hU
      subst hU
      cases b with
      | false =>
        clear he d' hb e0
        go_wp2_with fail
        refine cf.mono ?_
        rintro e w2 ⟨⟨v, rfl⟩, hE2, hk2⟩
        go_wp2_with fail
        go_ret
        exact ⟨rfl, hE2, hk1.trans hk2⟩
      | true =>
        have hle : T.size ≤ 4096 := by simpa using hb
        have e1 : decide ((4096 : Int) < (T.size : Int)) = false := decide_eq_false (by omega)
        clear he d' hb e0
        go_wp2_with fail
        refine cf.mono ?_
        rintro e w2 ⟨⟨v, rfl⟩, hE2, hk2⟩
        go_wp2_with fail
        go_ret
        exact ⟨rfl, hE2, hk1.trans hk2⟩
end Go.Proofs.Ytfglbgnjgapehaa.RBl

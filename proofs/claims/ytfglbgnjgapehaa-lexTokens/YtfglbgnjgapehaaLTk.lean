/- Templates: contract of tokens, ranged over. -/
import Derived.Test.YtfglbgnjgapehaaLMu
import Derived.Test.YtfglbgnjgapehaaLRw
import Derived.Test.YtfglbgnjgapehaaLQt
namespace Go.Proofs.Ytfglbgnjgapehaa.LTk
open Go.RowKit Go.Shelf Go.Proofs.Ytfglbgnjgapehaa.UBase Go.Proofs.Ytfglbgnjgapehaa.EPure Go.Proofs.Ytfglbgnjgapehaa.LPure Go.Proofs.Ytfglbgnjgapehaa.LRd Go.Proofs.Ytfglbgnjgapehaa.LSk Go.Proofs.Ytfglbgnjgapehaa.LSc Go.Proofs.Ytfglbgnjgapehaa.LNm Go.Proofs.Ytfglbgnjgapehaa.LIn Go.Proofs.Ytfglbgnjgapehaa.LSn Go.Proofs.Ytfglbgnjgapehaa.LMu Go.Proofs.Ytfglbgnjgapehaa.LRw Go.Proofs.Ytfglbgnjgapehaa.LQt
set_option linter.unusedVariables false
attribute [local go_sem] Oper.semAt_some

def enc (x : Tz) : Array Value := #[tv x.k x.n x.t x.a]
/-- What a round keeps of the lexer. -/
structure Kp (R : Nat) (W W' : World) : Prop where
  size : W.heap.size ≤ W'.heap.size
  box : W'.heap[R]? = W.heap[R]?
  zero : W'.heap[0]? = W.heap[0]?
theorem Kp.trans {R : Nat} {X Y Z : World} (h : Kp R X Y) (k : Kp R Y Z) : Kp R X Z := ⟨Nat.le_trans h.size k.size, k.box.trans h.box, k.zero.trans h.zero⟩
theorem Kp.book {R n : Nat} (hR : R < n) (W : World) (l : Nat) (o o' : Obj) (hl : n ≤ l) (_ : W.heap[l]? = some o) (_ : o.isCells = false) : Kp R W (W.putObj l o') :=
  ⟨by simp, World.putObj_heap_other (by omega), World.putObj_heap_other (by omega)⟩
theorem Gm.kp {R : Nat} {W W' : World} (h : Gm W) (k : Kp R W W') : Gm W' := by
  obtain ⟨m, hm⟩ := h
  refine ⟨m, ?_⟩
  rw [World.cell?, k.zero]
  exact hm
theorem sN_five (s : ByteArray) (i : Nat) (b : Bool) : sN s i b = 40 ∨ sN s i b = 42 ∨ sN s i b = 43 ∨ sN s i b = 44 ∨ sN s i b = 45 := by
  unfold sN
  split
  · exact .inl rfl
  split
  · exact .inr (.inl rfl)
  split
  · exact .inr (.inr (.inl rfl))
  split
  · exact .inr (.inr (.inr (.inl rfl)))
  · exact .inr (.inr (.inr (.inr rfl)))
theorem lxs_end {s : ByteArray} {n i : Nat} {b : Bool} {acc : List Tz} (h : ¬ (b = true ∨ i < s.size)) : lxs s (n + 1) i b acc = (acc, (0, 0)) := by rw [lxs, if_neg h]
theorem lxs_bad {s : ByteArray} {n i : Nat} {b : Bool} {acc : List Tz} (h : b = true ∨ i < s.size) (hf : (LSn.tok s i b (0, 0)).f.1 ≠ 0) : lxs s (n + 1) i b acc = (acc, (LSn.tok s i b (0, 0)).f) := by rw [lxs, if_pos h, if_neg hf]
theorem lxs_more {s : ByteArray} {n i : Nat} {b : Bool} {acc : List Tz} (h : b = true ∨ i < s.size) (hf : (LSn.tok s i b (0, 0)).f.1 = 0) : lxs s (n + 1) i b acc = lxs s n (LSn.tok s i b (0, 0)).i (LSn.tok s i b (0, 0)).b (acc ++ [LSn.tok s i b (0, 0)]) := by rw [lxs, if_pos h, if_pos hf]
/-- A fault has its place beside it; no fault, none. -/
def Fz (f : F) : Prop := f.1 = 0 → f = (0, 0)
theorem fz_rf {f e : F} (hf : Fz f) (he : e.1 ≠ 0) : Fz (rf f e) := by
  unfold rf
  split
  · exact fun h => absurd h he
  · exact hf
theorem fz_fif {c : Bool} {f e : F} (hf : Fz f) (he : e.1 ≠ 0) : Fz (fif c f e) := by
  unfold fif
  split
  · exact hf
  · exact fz_rf hf he
theorem tok_fz (s : ByteArray) (i : Nat) (b : Bool) {f : F} (hf : Fz f) : Fz (LSn.tok s i b f).f := by
  unfold LSn.tok
  split
  · split
    · exact fz_fif hf (by simp)
    split
    · exact fz_fif hf (by simp)
    split
    · show Fz (LAt.f7 s _ f)
      have h2 : Fz (LAt.f2 s (skp isb s i) f) := fz_fif hf (by simp)
      have h3 : Fz (LAt.f3 s (skp isb s i) f) := fz_fif h2 (by simp)
      have h4 : Fz (LAt.f4 s (skp isb s i) f) := fz_fif h3 (by simp)
      have h5 : Fz (LAt.f5 s (skp isb s i) f) := fz_fif h4 (by simp)
      have h6 : Fz (LAt.f6 s (skp isb s i) f) := fz_fif h5 (by simp)
      unfold LAt.f7
      split
      · exact h6
      · exact fz_fif h6 (by simp)
    · exact fz_rf hf (by simp)
  split
  · exact fz_fif hf (by simp)
  split
  · exact fz_fif (fz_fif hf (by simp)) (by simp)
  split
  · exact fz_fif hf (by simp)
  · exact fz_fif (fz_fif hf (by simp)) (by simp)
theorem four_box {W : World} {A : Nat} {t : TypeId} {u0 u1 u2 u3 : Value} (h : W.heap[A]? = some (.cells #[u0, u1, u2, u3] t (0, 0))) : W.cell? ⟨A, 0, none⟩ = some u0 ∧ W.cell? ⟨A, 1, none⟩ = some u1 ∧ W.cell? ⟨A, 2, none⟩ = some u2 ∧ W.cell? ⟨A, 3, none⟩ = some u3 := by simp [World.cell?, h]
theorem gm_below {w W : World} (h : Gm w) (hw : 0 < w.heap.size) (hB : Below w.heap.size w W) : Gm W := by
  obtain ⟨m, hm⟩ := h
  refine ⟨m, ?_⟩
  rw [World.cell?, hB.block 0 hw]
  exact hm
set_option maxRecDepth 100000 in
set_option maxHeartbeats 4000000 in
theorem tokens_gives {w : World} {R : Nat} {s : ByteArray} (hR0 : 0 < R) (h : Lr w R s 0 false (0, 0)) (hg : Gm w) (m : Nat) :
    Gives Fence.wide m Try.prog 17 #[ptr R] enc (Kr R) (Kp R) (fun xs W' => ∃ i b, Lr W' R s i b (lxs s (s.size + 1) 0 false []).2 ∧ xs = (lxs s (s.size + 1) 0 false []).1) (s.size + 1) w := by
  intro l J W hB hJ hY h0
  have hdd : ∀ k : Nat, (Fence.wide.depth.isSome = true → 1 ≤ k) := fun k h => by cases h
  have hmx : Try.prog.follows .mixedOrders = true := by kernel_rfl
  have HL : Hid (Lr W R s 0 false (0, 0)) := h.keep (hB.block _ h.lt)
  have HG : Hid (Gm W) := gm_below hg (by have := h.lt; omega) hB
  have HJ : Hid (∀ s X Y, J s X → Kr R X Y → J s Y) := hJ
  have HY : Hid (∀ pre x W1, J pre W1 → pre.length < s.size + 1 → YieldAt Fence.wide (m - 1) Try.prog l (enc x) W1 fun e W' => e = .returned (.bool true) ∧ J (pre ++ [x]) W' ∧ Kp R W1 W') := hY
  have hsz := h.sz
  obtain ⟨X, HX⟩ : ∃ X, Hid (lxs s (s.size + 1) 0 false [] = X) := ⟨_, rfl⟩
  rw [HX.out]
  clear hB hJ hY h hg
  show CallsIn Fence.wide m Try.prog 17 #[ptr R, .func (.yield l) #[] #[]] W _
  unfold ptr
  refine callsIn_of_wp Try.func17 rfl trivial ?_ rfl
  simp only [Try.ntmps17, List.size_toArray, List.length_cons, List.length_nil, Nat.reduceAdd, Nat.reduceSub, Array.replicate_succ, Array.replicate_zero, List.push_toArray, List.append_toArray, List.nil_append, List.cons_append]
  gi_wp2
  gi_loopw [] (fun wr => ∃ (i : Nat) (b : Bool) (ys : List Tz) (n : Nat), ys.length ≤ i ∧ s.size + 1 - i ≤ n ∧ lxs s n i b ys = X ∧ J ys wr ∧ Lr wr R s i b (0, 0) ∧ Gm wr) (fun wr => s.size + 1 - plc R wr)
  case atStart => exact ⟨0, false, [], s.size + 1, Nat.le_refl _, Nat.le_refl _, HX.out, h0, HL.out, HG.out⟩
  case round =>
    clear HL HG HX h0
    obtain ⟨i, b, ys, n, hyi, hn, hx, hJs, hE, hgw⟩ := hrel
    obtain ⟨k0, k1, k2, k3, k4⟩ := hE.cells
    have hla := hE.la
    have HM : Hid (plc R wr = i) := plc_of hE
    obtain ⟨n', rfl⟩ : ∃ n', n = n' + 1 := ⟨n - 1, by omega⟩
    have HE : Hid (∀ m, Lr (wr.drewN m) R s i b (0, 0)) := fun m => hE.drewN m
    have HG : Hid (∀ m, Gm (wr.drewN m)) := fun m => hgw
    have HJs : Hid (∀ m, J ys (wr.drewN m)) := fun m => HJ.out _ _ _ hJs ((Kr.refl R wr).drewN m)
    have Hx : Hid (lxs s (n' + 1) i b ys = X) := hx
    have Hyi : Hid (ys.length ≤ i) := hyi
    have Hn : Hid (s.size + 1 - i ≤ n' + 1) := hn
    clear hx hJs hE hgw hyi hn
    cases b with
    | true =>
      have Hadv : Hid ((LSn.tok s i true (0, 0)).f.1 = 0 → i < (LSn.tok s i true (0, 0)).i) := fun h => tok_adv (.inl rfl) h
      have Hfz : Hid ((LSn.tok s i true (0, 0)).f.1 = 0 → (LSn.tok s i true (0, 0)).f = (0, 0)) := tok_fz s i true (fun _ => rfl)
      have Hmore : Hid ((LSn.tok s i true (0, 0)).f.1 = 0 → lxs s n' (LSn.tok s i true (0, 0)).i (LSn.tok s i true (0, 0)).b (ys ++ [LSn.tok s i true (0, 0)]) = X) := fun h => (lxs_more (.inl rfl) h).symm.trans Hx.out
      have Hbad : Hid (¬ (LSn.tok s i true (0, 0)).f.1 = 0 → (ys, (LSn.tok s i true (0, 0)).f) = X) := fun h => (lxs_bad (.inl rfl) h).symm.trans Hx.out
      have hq : sN s i true = 40 := by unfold sN; rw [if_pos rfl]
      clear Hx
      gi_wp2
      refine region_quiet (by kernel_rfl) hmx (by kernel_rfl) ?_
      repeat (gi_big_quiet_step (fail))
      refine wpQuietIn_nil ?_
      intro _ hw'
      obtain ⟨nq, hw''⟩ := hw'
      subst hw''
      have hE0 := HE.out nq
      have hg0 := HG.out nq
      have hJ0 := HJs.out nq
      clear HE HG HJs k0 k1 k2 k3 k4
      generalize wr.drewN nq = w0 at *
      gi_wp2_with fail
      refine ⟨trivial, hdd _, ?_⟩
      refine ((callsIn_wide (n := m - 1)).2 (scanner_c hE0)).mono ?_
      rintro e w1 ⟨rfl, hE1, hk1⟩
      have hg1 := Gm.kr hg0 hk1 hR0 hE0.lt
      have c2 := (callsIn_wide (n := m - 1)).2 (scan_c hE1 hg1 hR0)
      rw [hq] at c2 ⊢
      obtain ⟨T, hT⟩ : ∃ T, LSn.tok s i true (0, 0) = T := ⟨_, rfl⟩
      rw [hT] at c2 Hadv Hfz Hmore Hbad
      clear hT hq
      gi_wp2_with fail
      refine ⟨trivial, hdd _, ?_⟩
      refine c2.mono ?_
      rintro e w2 ⟨rfl, hE2, hk2⟩
      clear c2
      unfold tv
      obtain ⟨W, hW⟩ : ∃ W, w2.alloc (.cells #[.int .i64 T.k, .string T.n, .string T.t, .int .i64 T.a] 34) = W := ⟨_, rfl⟩
      have hWb : Below w2.heap.size w2 W := by rw [← hW]; exact (Below.refl _ w2).alloc (Nat.le_refl _) _
      have hE3 : Lr W R s T.i T.b T.f := hE2.keep (hWb.block _ hE2.lt)
      have hkW : Kr R w0 W := (hk1.trans hk2).trans (Kr.of_below hWb (Nat.le_of_lt hE2.lt))
      have hJ3 := HJ.out _ _ _ hJ0 hkW
      have hg3 := Gm.kr hg0 hkW hR0 hE0.lt
      have hbx : W.heap[w2.heap.size]? = some (.cells #[.int .i64 T.k, .string T.n, .string T.t, .int .i64 T.a] 34 (0, 0)) := by rw [← hW, heap_alloc_new]
      obtain ⟨d0, d1, d2, d3⟩ := four_box hbx
      have c3 := (callsIn_wide (n := m - 1)).2 (failed_c hE3)
      clear hE2 hk1 hk2 hE1 hg1 hWb hbx
      gi_wp2_with fail
      try rw [hW]
      refine ⟨trivial, hdd _, ?_⟩
      refine c3.mono ?_
      rintro e w3 ⟨rfl, rfl⟩
      by_cases hf : T.f.1 = 0
      · have e0 : ((T.f.1 : Int) != 0) = false := by simp [hf]
        rw [e0]
        have hTf : T.f = (0, 0) := Hfz.out hf
        obtain ⟨fn, tmps, assign, body, hy, hR⟩ := HY.out ys T w3 hJ3 (by have := Hyi.out; omega)
        dsimp only [enc, tv] at hy
        have hadv := Hadv.out hf
        have hmore := Hmore.out hf
        clear Hadv Hmore Hbad Hfz
        have HT : Hid (T.f = (0, 0)) := hTf
        have Hf : Hid (T.f.1 = 0) := hf
        have HA : Hid (i < T.i) := hadv
        have HMo : Hid (lxs s n' T.i T.b (ys ++ [T]) = X) := hmore
        clear hTf hf hadv hmore hW c3
        gi_wp2_with fail
        refine ⟨hdd _, hR.mono ?_⟩
        rintro e W4 ⟨rfl, hJ4, hk4⟩
        gi_wp2_with fail
        have hE4 := hE3.keep hk4.box
        rw [HT.out] at hE4
        go_roundw
        case rel =>
          have h1 := HA.out
          have h2 := Hyi.out
          have h3 := Hn.out
          exact ⟨T.i, T.b, ys ++ [T], n', by simp; omega, by omega, HMo.out, hJ4, hE4, Gm.kp hg3 hk4⟩
        case measure =>
          show s.size + 1 - plc R _ < s.size + 1 - plc R wr
          rw [plc_of hE4, HM.out]
          have h1 := HA.out
          omega
      · have e0 : ((T.f.1 : Int) != 0) = true := by simp; omega
        rw [e0]
        have hX := Hbad.out hf
        clear Hadv Hmore Hbad Hfz hW
        gi_wp2_with fail
        refine ⟨fun f h => (by cases h), ?_⟩
        gi_wp2_with fail
        refine bodyPost_ret (results_none rfl _ _ _) rfl ?_
        exact ⟨⟨_, rfl⟩, ys, ⟨_, _, by rw [← hX]; exact hE3, by rw [← hX]⟩, hJ3⟩
    | false =>
      by_cases hc : i < s.size
      · have Hadv : Hid ((LSn.tok s i false (0, 0)).f.1 = 0 → i < (LSn.tok s i false (0, 0)).i) := fun h => tok_adv (.inr hc) h
        have Hfz : Hid ((LSn.tok s i false (0, 0)).f.1 = 0 → (LSn.tok s i false (0, 0)).f = (0, 0)) := tok_fz s i false (fun _ => rfl)
        have Hmore : Hid ((LSn.tok s i false (0, 0)).f.1 = 0 → lxs s n' (LSn.tok s i false (0, 0)).i (LSn.tok s i false (0, 0)).b (ys ++ [LSn.tok s i false (0, 0)]) = X) := fun h => (lxs_more (.inr hc) h).symm.trans Hx.out
        have Hbad : Hid (¬ (LSn.tok s i false (0, 0)).f.1 = 0 → (ys, (LSn.tok s i false (0, 0)).f) = X) := fun h => (lxs_bad (.inr hc) h).symm.trans Hx.out
        have d : decide (i < s.size) = true := decide_eq_true hc
        clear Hx hc
        rcases sN_five s i false with hq | hq | hq | hq | hq
        · gi_wp2
          refine region_quiet (by kernel_rfl) hmx (by kernel_rfl) ?_
          repeat (gi_big_quiet_step (fail))
          refine wpQuietIn_nil ?_
          intro _ hw'
          obtain ⟨nq, hw''⟩ := hw'
          subst hw''
          have hE0 := HE.out nq
          have hg0 := HG.out nq
          have hJ0 := HJs.out nq
          clear HE HG HJs k0 k1 k2 k3 k4
          generalize wr.drewN nq = w0 at *
          gi_wp2_with fail
          refine ⟨trivial, hdd _, ?_⟩
          refine ((callsIn_wide (n := m - 1)).2 (scanner_c hE0)).mono ?_
          rintro e w1 ⟨rfl, hE1, hk1⟩
          have hg1 := Gm.kr hg0 hk1 hR0 hE0.lt
          have c2 := (callsIn_wide (n := m - 1)).2 (scan_c hE1 hg1 hR0)
          rw [hq] at c2 ⊢
          obtain ⟨T, hT⟩ : ∃ T, LSn.tok s i false (0, 0) = T := ⟨_, rfl⟩
          rw [hT] at c2 Hadv Hfz Hmore Hbad
          clear hT hq
          gi_wp2_with fail
          refine ⟨trivial, hdd _, ?_⟩
          refine c2.mono ?_
          rintro e w2 ⟨rfl, hE2, hk2⟩
          clear c2
          unfold tv
          obtain ⟨W, hW⟩ : ∃ W, w2.alloc (.cells #[.int .i64 T.k, .string T.n, .string T.t, .int .i64 T.a] 34) = W := ⟨_, rfl⟩
          have hWb : Below w2.heap.size w2 W := by rw [← hW]; exact (Below.refl _ w2).alloc (Nat.le_refl _) _
          have hE3 : Lr W R s T.i T.b T.f := hE2.keep (hWb.block _ hE2.lt)
          have hkW : Kr R w0 W := (hk1.trans hk2).trans (Kr.of_below hWb (Nat.le_of_lt hE2.lt))
          have hJ3 := HJ.out _ _ _ hJ0 hkW
          have hg3 := Gm.kr hg0 hkW hR0 hE0.lt
          have hbx : W.heap[w2.heap.size]? = some (.cells #[.int .i64 T.k, .string T.n, .string T.t, .int .i64 T.a] 34 (0, 0)) := by rw [← hW, heap_alloc_new]
          obtain ⟨d0, d1, d2, d3⟩ := four_box hbx
          have c3 := (callsIn_wide (n := m - 1)).2 (failed_c hE3)
          clear hE2 hk1 hk2 hE1 hg1 hWb hbx
          gi_wp2_with fail
          try rw [hW]
          refine ⟨trivial, hdd _, ?_⟩
          refine c3.mono ?_
          rintro e w3 ⟨rfl, rfl⟩
          by_cases hf : T.f.1 = 0
          · have e0 : ((T.f.1 : Int) != 0) = false := by simp [hf]
            rw [e0]
            have hTf : T.f = (0, 0) := Hfz.out hf
            obtain ⟨fn, tmps, assign, body, hy, hR⟩ := HY.out ys T w3 hJ3 (by have := Hyi.out; omega)
            dsimp only [enc, tv] at hy
            have hadv := Hadv.out hf
            have hmore := Hmore.out hf
            clear Hadv Hmore Hbad Hfz
            have HT : Hid (T.f = (0, 0)) := hTf
            have Hf : Hid (T.f.1 = 0) := hf
            have HA : Hid (i < T.i) := hadv
            have HMo : Hid (lxs s n' T.i T.b (ys ++ [T]) = X) := hmore
            clear hTf hf hadv hmore hW c3
            gi_wp2_with fail
            refine ⟨hdd _, hR.mono ?_⟩
            rintro e W4 ⟨rfl, hJ4, hk4⟩
            gi_wp2_with fail
            have hE4 := hE3.keep hk4.box
            rw [HT.out] at hE4
            go_roundw
            case rel =>
              have h1 := HA.out
              have h2 := Hyi.out
              have h3 := Hn.out
              exact ⟨T.i, T.b, ys ++ [T], n', by simp; omega, by omega, HMo.out, hJ4, hE4, Gm.kp hg3 hk4⟩
            case measure =>
              show s.size + 1 - plc R _ < s.size + 1 - plc R wr
              rw [plc_of hE4, HM.out]
              have h1 := HA.out
              omega
          · have e0 : ((T.f.1 : Int) != 0) = true := by simp; omega
            rw [e0]
            have hX := Hbad.out hf
            clear Hadv Hmore Hbad Hfz hW
            gi_wp2_with fail
            refine ⟨fun f h => (by cases h), ?_⟩
            gi_wp2_with fail
            refine bodyPost_ret (results_none rfl _ _ _) rfl ?_
            exact ⟨⟨_, rfl⟩, ys, ⟨_, _, by rw [← hX]; exact hE3, by rw [← hX]⟩, hJ3⟩
        · gi_wp2
          refine region_quiet (by kernel_rfl) hmx (by kernel_rfl) ?_
          repeat (gi_big_quiet_step (fail))
          refine wpQuietIn_nil ?_
          intro _ hw'
          obtain ⟨nq, hw''⟩ := hw'
          subst hw''
          have hE0 := HE.out nq
          have hg0 := HG.out nq
          have hJ0 := HJs.out nq
          clear HE HG HJs k0 k1 k2 k3 k4
          generalize wr.drewN nq = w0 at *
          gi_wp2_with fail
          refine ⟨trivial, hdd _, ?_⟩
          refine ((callsIn_wide (n := m - 1)).2 (scanner_c hE0)).mono ?_
          rintro e w1 ⟨rfl, hE1, hk1⟩
          have hg1 := Gm.kr hg0 hk1 hR0 hE0.lt
          have c2 := (callsIn_wide (n := m - 1)).2 (scan_c hE1 hg1 hR0)
          rw [hq] at c2 ⊢
          obtain ⟨T, hT⟩ : ∃ T, LSn.tok s i false (0, 0) = T := ⟨_, rfl⟩
          rw [hT] at c2 Hadv Hfz Hmore Hbad
          clear hT hq
          gi_wp2_with fail
          refine ⟨trivial, hdd _, ?_⟩
          refine c2.mono ?_
          rintro e w2 ⟨rfl, hE2, hk2⟩
          clear c2
          unfold tv
          obtain ⟨W, hW⟩ : ∃ W, w2.alloc (.cells #[.int .i64 T.k, .string T.n, .string T.t, .int .i64 T.a] 34) = W := ⟨_, rfl⟩
          have hWb : Below w2.heap.size w2 W := by rw [← hW]; exact (Below.refl _ w2).alloc (Nat.le_refl _) _
          have hE3 : Lr W R s T.i T.b T.f := hE2.keep (hWb.block _ hE2.lt)
          have hkW : Kr R w0 W := (hk1.trans hk2).trans (Kr.of_below hWb (Nat.le_of_lt hE2.lt))
          have hJ3 := HJ.out _ _ _ hJ0 hkW
          have hg3 := Gm.kr hg0 hkW hR0 hE0.lt
          have hbx : W.heap[w2.heap.size]? = some (.cells #[.int .i64 T.k, .string T.n, .string T.t, .int .i64 T.a] 34 (0, 0)) := by rw [← hW, heap_alloc_new]
          obtain ⟨d0, d1, d2, d3⟩ := four_box hbx
          have c3 := (callsIn_wide (n := m - 1)).2 (failed_c hE3)
          clear hE2 hk1 hk2 hE1 hg1 hWb hbx
          gi_wp2_with fail
          try rw [hW]
          refine ⟨trivial, hdd _, ?_⟩
          refine c3.mono ?_
          rintro e w3 ⟨rfl, rfl⟩
          by_cases hf : T.f.1 = 0
          · have e0 : ((T.f.1 : Int) != 0) = false := by simp [hf]
            rw [e0]
            have hTf : T.f = (0, 0) := Hfz.out hf
            obtain ⟨fn, tmps, assign, body, hy, hR⟩ := HY.out ys T w3 hJ3 (by have := Hyi.out; omega)
            dsimp only [enc, tv] at hy
            have hadv := Hadv.out hf
            have hmore := Hmore.out hf
            clear Hadv Hmore Hbad Hfz
            have HT : Hid (T.f = (0, 0)) := hTf
            have Hf : Hid (T.f.1 = 0) := hf
            have HA : Hid (i < T.i) := hadv
            have HMo : Hid (lxs s n' T.i T.b (ys ++ [T]) = X) := hmore
            clear hTf hf hadv hmore hW c3
            gi_wp2_with fail
            refine ⟨hdd _, hR.mono ?_⟩
            rintro e W4 ⟨rfl, hJ4, hk4⟩
            gi_wp2_with fail
            have hE4 := hE3.keep hk4.box
            rw [HT.out] at hE4
            go_roundw
            case rel =>
              have h1 := HA.out
              have h2 := Hyi.out
              have h3 := Hn.out
              exact ⟨T.i, T.b, ys ++ [T], n', by simp; omega, by omega, HMo.out, hJ4, hE4, Gm.kp hg3 hk4⟩
            case measure =>
              show s.size + 1 - plc R _ < s.size + 1 - plc R wr
              rw [plc_of hE4, HM.out]
              have h1 := HA.out
              omega
          · have e0 : ((T.f.1 : Int) != 0) = true := by simp; omega
            rw [e0]
            have hX := Hbad.out hf
            clear Hadv Hmore Hbad Hfz hW
            gi_wp2_with fail
            refine ⟨fun f h => (by cases h), ?_⟩
            gi_wp2_with fail
            refine bodyPost_ret (results_none rfl _ _ _) rfl ?_
            exact ⟨⟨_, rfl⟩, ys, ⟨_, _, by rw [← hX]; exact hE3, by rw [← hX]⟩, hJ3⟩
        · gi_wp2
          refine region_quiet (by kernel_rfl) hmx (by kernel_rfl) ?_
          repeat (gi_big_quiet_step (fail))
          refine wpQuietIn_nil ?_
          intro _ hw'
          obtain ⟨nq, hw''⟩ := hw'
          subst hw''
          have hE0 := HE.out nq
          have hg0 := HG.out nq
          have hJ0 := HJs.out nq
          clear HE HG HJs k0 k1 k2 k3 k4
          generalize wr.drewN nq = w0 at *
          gi_wp2_with fail
          refine ⟨trivial, hdd _, ?_⟩
          refine ((callsIn_wide (n := m - 1)).2 (scanner_c hE0)).mono ?_
          rintro e w1 ⟨rfl, hE1, hk1⟩
          have hg1 := Gm.kr hg0 hk1 hR0 hE0.lt
          have c2 := (callsIn_wide (n := m - 1)).2 (scan_c hE1 hg1 hR0)
          rw [hq] at c2 ⊢
          obtain ⟨T, hT⟩ : ∃ T, LSn.tok s i false (0, 0) = T := ⟨_, rfl⟩
          rw [hT] at c2 Hadv Hfz Hmore Hbad
          clear hT hq
          gi_wp2_with fail
          refine ⟨trivial, hdd _, ?_⟩
          refine c2.mono ?_
          rintro e w2 ⟨rfl, hE2, hk2⟩
          clear c2
          unfold tv
          obtain ⟨W, hW⟩ : ∃ W, w2.alloc (.cells #[.int .i64 T.k, .string T.n, .string T.t, .int .i64 T.a] 34) = W := ⟨_, rfl⟩
          have hWb : Below w2.heap.size w2 W := by rw [← hW]; exact (Below.refl _ w2).alloc (Nat.le_refl _) _
          have hE3 : Lr W R s T.i T.b T.f := hE2.keep (hWb.block _ hE2.lt)
          have hkW : Kr R w0 W := (hk1.trans hk2).trans (Kr.of_below hWb (Nat.le_of_lt hE2.lt))
          have hJ3 := HJ.out _ _ _ hJ0 hkW
          have hg3 := Gm.kr hg0 hkW hR0 hE0.lt
          have hbx : W.heap[w2.heap.size]? = some (.cells #[.int .i64 T.k, .string T.n, .string T.t, .int .i64 T.a] 34 (0, 0)) := by rw [← hW, heap_alloc_new]
          obtain ⟨d0, d1, d2, d3⟩ := four_box hbx
          have c3 := (callsIn_wide (n := m - 1)).2 (failed_c hE3)
          clear hE2 hk1 hk2 hE1 hg1 hWb hbx
          gi_wp2_with fail
          try rw [hW]
          refine ⟨trivial, hdd _, ?_⟩
          refine c3.mono ?_
          rintro e w3 ⟨rfl, rfl⟩
          by_cases hf : T.f.1 = 0
          · have e0 : ((T.f.1 : Int) != 0) = false := by simp [hf]
            rw [e0]
            have hTf : T.f = (0, 0) := Hfz.out hf
            obtain ⟨fn, tmps, assign, body, hy, hR⟩ := HY.out ys T w3 hJ3 (by have := Hyi.out; omega)
            dsimp only [enc, tv] at hy
            have hadv := Hadv.out hf
            have hmore := Hmore.out hf
            clear Hadv Hmore Hbad Hfz
            have HT : Hid (T.f = (0, 0)) := hTf
            have Hf : Hid (T.f.1 = 0) := hf
            have HA : Hid (i < T.i) := hadv
            have HMo : Hid (lxs s n' T.i T.b (ys ++ [T]) = X) := hmore
            clear hTf hf hadv hmore hW c3
            gi_wp2_with fail
            refine ⟨hdd _, hR.mono ?_⟩
            rintro e W4 ⟨rfl, hJ4, hk4⟩
            gi_wp2_with fail
            have hE4 := hE3.keep hk4.box
            rw [HT.out] at hE4
            go_roundw
            case rel =>
              have h1 := HA.out
              have h2 := Hyi.out
              have h3 := Hn.out
              exact ⟨T.i, T.b, ys ++ [T], n', by simp; omega, by omega, HMo.out, hJ4, hE4, Gm.kp hg3 hk4⟩
            case measure =>
              show s.size + 1 - plc R _ < s.size + 1 - plc R wr
              rw [plc_of hE4, HM.out]
              have h1 := HA.out
              omega
          · have e0 : ((T.f.1 : Int) != 0) = true := by simp; omega
            rw [e0]
            have hX := Hbad.out hf
            clear Hadv Hmore Hbad Hfz hW
            gi_wp2_with fail
            refine ⟨fun f h => (by cases h), ?_⟩
            gi_wp2_with fail
            refine bodyPost_ret (results_none rfl _ _ _) rfl ?_
            exact ⟨⟨_, rfl⟩, ys, ⟨_, _, by rw [← hX]; exact hE3, by rw [← hX]⟩, hJ3⟩
        · gi_wp2
          refine region_quiet (by kernel_rfl) hmx (by kernel_rfl) ?_
          repeat (gi_big_quiet_step (fail))
          refine wpQuietIn_nil ?_
          intro _ hw'
          obtain ⟨nq, hw''⟩ := hw'
          subst hw''
          have hE0 := HE.out nq
          have hg0 := HG.out nq
          have hJ0 := HJs.out nq
          clear HE HG HJs k0 k1 k2 k3 k4
          generalize wr.drewN nq = w0 at *
          gi_wp2_with fail
          refine ⟨trivial, hdd _, ?_⟩
          refine ((callsIn_wide (n := m - 1)).2 (scanner_c hE0)).mono ?_
          rintro e w1 ⟨rfl, hE1, hk1⟩
          have hg1 := Gm.kr hg0 hk1 hR0 hE0.lt
          have c2 := (callsIn_wide (n := m - 1)).2 (scan_c hE1 hg1 hR0)
          rw [hq] at c2 ⊢
          obtain ⟨T, hT⟩ : ∃ T, LSn.tok s i false (0, 0) = T := ⟨_, rfl⟩
          rw [hT] at c2 Hadv Hfz Hmore Hbad
          clear hT hq
          gi_wp2_with fail
          refine ⟨trivial, hdd _, ?_⟩
          refine c2.mono ?_
          rintro e w2 ⟨rfl, hE2, hk2⟩
          clear c2
          unfold tv
          obtain ⟨W, hW⟩ : ∃ W, w2.alloc (.cells #[.int .i64 T.k, .string T.n, .string T.t, .int .i64 T.a] 34) = W := ⟨_, rfl⟩
          have hWb : Below w2.heap.size w2 W := by rw [← hW]; exact (Below.refl _ w2).alloc (Nat.le_refl _) _
          have hE3 : Lr W R s T.i T.b T.f := hE2.keep (hWb.block _ hE2.lt)
          have hkW : Kr R w0 W := (hk1.trans hk2).trans (Kr.of_below hWb (Nat.le_of_lt hE2.lt))
          have hJ3 := HJ.out _ _ _ hJ0 hkW
          have hg3 := Gm.kr hg0 hkW hR0 hE0.lt
          have hbx : W.heap[w2.heap.size]? = some (.cells #[.int .i64 T.k, .string T.n, .string T.t, .int .i64 T.a] 34 (0, 0)) := by rw [← hW, heap_alloc_new]
          obtain ⟨d0, d1, d2, d3⟩ := four_box hbx
          have c3 := (callsIn_wide (n := m - 1)).2 (failed_c hE3)
          clear hE2 hk1 hk2 hE1 hg1 hWb hbx
          gi_wp2_with fail
          try rw [hW]
          refine ⟨trivial, hdd _, ?_⟩
          refine c3.mono ?_
          rintro e w3 ⟨rfl, rfl⟩
          by_cases hf : T.f.1 = 0
          · have e0 : ((T.f.1 : Int) != 0) = false := by simp [hf]
            rw [e0]
            have hTf : T.f = (0, 0) := Hfz.out hf
            obtain ⟨fn, tmps, assign, body, hy, hR⟩ := HY.out ys T w3 hJ3 (by have := Hyi.out; omega)
            dsimp only [enc, tv] at hy
            have hadv := Hadv.out hf
            have hmore := Hmore.out hf
            clear Hadv Hmore Hbad Hfz
            have HT : Hid (T.f = (0, 0)) := hTf
            have Hf : Hid (T.f.1 = 0) := hf
            have HA : Hid (i < T.i) := hadv
            have HMo : Hid (lxs s n' T.i T.b (ys ++ [T]) = X) := hmore
            clear hTf hf hadv hmore hW c3
            gi_wp2_with fail
            refine ⟨hdd _, hR.mono ?_⟩
            rintro e W4 ⟨rfl, hJ4, hk4⟩
            gi_wp2_with fail
            have hE4 := hE3.keep hk4.box
            rw [HT.out] at hE4
            go_roundw
            case rel =>
              have h1 := HA.out
              have h2 := Hyi.out
              have h3 := Hn.out
              exact ⟨T.i, T.b, ys ++ [T], n', by simp; omega, by omega, HMo.out, hJ4, hE4, Gm.kp hg3 hk4⟩
            case measure =>
              show s.size + 1 - plc R _ < s.size + 1 - plc R wr
              rw [plc_of hE4, HM.out]
              have h1 := HA.out
              omega
          · have e0 : ((T.f.1 : Int) != 0) = true := by simp; omega
            rw [e0]
            have hX := Hbad.out hf
            clear Hadv Hmore Hbad Hfz hW
            gi_wp2_with fail
            refine ⟨fun f h => (by cases h), ?_⟩
            gi_wp2_with fail
            refine bodyPost_ret (results_none rfl _ _ _) rfl ?_
            exact ⟨⟨_, rfl⟩, ys, ⟨_, _, by rw [← hX]; exact hE3, by rw [← hX]⟩, hJ3⟩
        · gi_wp2
          refine region_quiet (by kernel_rfl) hmx (by kernel_rfl) ?_
          repeat (gi_big_quiet_step (fail))
          refine wpQuietIn_nil ?_
          intro _ hw'
          obtain ⟨nq, hw''⟩ := hw'
          subst hw''
          have hE0 := HE.out nq
          have hg0 := HG.out nq
          have hJ0 := HJs.out nq
          clear HE HG HJs k0 k1 k2 k3 k4
          generalize wr.drewN nq = w0 at *
          gi_wp2_with fail
          refine ⟨trivial, hdd _, ?_⟩
          refine ((callsIn_wide (n := m - 1)).2 (scanner_c hE0)).mono ?_
          rintro e w1 ⟨rfl, hE1, hk1⟩
          have hg1 := Gm.kr hg0 hk1 hR0 hE0.lt
          have c2 := (callsIn_wide (n := m - 1)).2 (scan_c hE1 hg1 hR0)
          rw [hq] at c2 ⊢
          obtain ⟨T, hT⟩ : ∃ T, LSn.tok s i false (0, 0) = T := ⟨_, rfl⟩
          rw [hT] at c2 Hadv Hfz Hmore Hbad
          clear hT hq
          gi_wp2_with fail
          refine ⟨trivial, hdd _, ?_⟩
          refine c2.mono ?_
          rintro e w2 ⟨rfl, hE2, hk2⟩
          clear c2
          unfold tv
          obtain ⟨W, hW⟩ : ∃ W, w2.alloc (.cells #[.int .i64 T.k, .string T.n, .string T.t, .int .i64 T.a] 34) = W := ⟨_, rfl⟩
          have hWb : Below w2.heap.size w2 W := by rw [← hW]; exact (Below.refl _ w2).alloc (Nat.le_refl _) _
          have hE3 : Lr W R s T.i T.b T.f := hE2.keep (hWb.block _ hE2.lt)
          have hkW : Kr R w0 W := (hk1.trans hk2).trans (Kr.of_below hWb (Nat.le_of_lt hE2.lt))
          have hJ3 := HJ.out _ _ _ hJ0 hkW
          have hg3 := Gm.kr hg0 hkW hR0 hE0.lt
          have hbx : W.heap[w2.heap.size]? = some (.cells #[.int .i64 T.k, .string T.n, .string T.t, .int .i64 T.a] 34 (0, 0)) := by rw [← hW, heap_alloc_new]
          obtain ⟨d0, d1, d2, d3⟩ := four_box hbx
          have c3 := (callsIn_wide (n := m - 1)).2 (failed_c hE3)
          clear hE2 hk1 hk2 hE1 hg1 hWb hbx
          gi_wp2_with fail
          try rw [hW]
          refine ⟨trivial, hdd _, ?_⟩
          refine c3.mono ?_
          rintro e w3 ⟨rfl, rfl⟩
          by_cases hf : T.f.1 = 0
          · have e0 : ((T.f.1 : Int) != 0) = false := by simp [hf]
            rw [e0]
            have hTf : T.f = (0, 0) := Hfz.out hf
            obtain ⟨fn, tmps, assign, body, hy, hR⟩ := HY.out ys T w3 hJ3 (by have := Hyi.out; omega)
            dsimp only [enc, tv] at hy
            have hadv := Hadv.out hf
            have hmore := Hmore.out hf
            clear Hadv Hmore Hbad Hfz
            have HT : Hid (T.f = (0, 0)) := hTf
            have Hf : Hid (T.f.1 = 0) := hf
            have HA : Hid (i < T.i) := hadv
            have HMo : Hid (lxs s n' T.i T.b (ys ++ [T]) = X) := hmore
            clear hTf hf hadv hmore hW c3
            gi_wp2_with fail
            refine ⟨hdd _, hR.mono ?_⟩
            rintro e W4 ⟨rfl, hJ4, hk4⟩
            gi_wp2_with fail
            have hE4 := hE3.keep hk4.box
            rw [HT.out] at hE4
            go_roundw
            case rel =>
              have h1 := HA.out
              have h2 := Hyi.out
              have h3 := Hn.out
              exact ⟨T.i, T.b, ys ++ [T], n', by simp; omega, by omega, HMo.out, hJ4, hE4, Gm.kp hg3 hk4⟩
            case measure =>
              show s.size + 1 - plc R _ < s.size + 1 - plc R wr
              rw [plc_of hE4, HM.out]
              have h1 := HA.out
              omega
          · have e0 : ((T.f.1 : Int) != 0) = true := by simp; omega
            rw [e0]
            have hX := Hbad.out hf
            clear Hadv Hmore Hbad Hfz hW
            gi_wp2_with fail
            refine ⟨fun f h => (by cases h), ?_⟩
            gi_wp2_with fail
            refine bodyPost_ret (results_none rfl _ _ _) rfl ?_
            exact ⟨⟨_, rfl⟩, ys, ⟨_, _, by rw [← hX]; exact hE3, by rw [← hX]⟩, hJ3⟩
      · have d : decide (i < s.size) = false := decide_eq_false hc
        have hX : (ys, (0, 0)) = X := (lxs_end (by simpa using hc)).symm.trans Hx.out
        clear hc Hx
        gi_wp2
        refine region_quiet (by kernel_rfl) hmx (by kernel_rfl) ?_
        repeat (gi_big_quiet_step (fail))
        refine wpQuietIn_nil ?_
        intro _ hw'
        obtain ⟨nq, hw''⟩ := hw'
        subst hw''
        gi_wp2_with fail
        go_end0
        exact ⟨⟨_, rfl⟩, ys, ⟨_, _, by rw [← hX]; exact HE.out nq, by rw [← hX]⟩, HJs.out nq⟩
end Go.Proofs.Ytfglbgnjgapehaa.LTk

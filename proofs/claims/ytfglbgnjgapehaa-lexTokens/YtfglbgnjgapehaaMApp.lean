/- The reference's lexer against the plain one: how far a call has come (no walk). -/
import Derived.Test.YtfglbgnjgapehaaRTt
import Derived.Test.YtfglbgnjgapehaaRNa
import Derived.Maps.AppendAt
import Derived.Deep.RegionHeld3
namespace Go.Proofs.Ytfglbgnjgapehaa.RRc
open Go.RowKit Go.Proofs.Ytfglbgnjgapehaa.UBase Go.Proofs.Ytfglbgnjgapehaa.EPure Go.Proofs.Ytfglbgnjgapehaa.LPure Go.Proofs.Ytfglbgnjgapehaa.LRd Go.Proofs.Ytfglbgnjgapehaa.LSk Go.Proofs.Ytfglbgnjgapehaa.LNm Go.Proofs.Ytfglbgnjgapehaa.LUp Go.Proofs.Ytfglbgnjgapehaa.LTe Go.Proofs.Ytfglbgnjgapehaa.LSc Go.Proofs.Ytfglbgnjgapehaa.LOc Go.Proofs.Ytfglbgnjgapehaa.LEn Go.Proofs.Ytfglbgnjgapehaa.LIn Go.Proofs.Ytfglbgnjgapehaa.LSn Go.Proofs.Ytfglbgnjgapehaa.LMu Go.Proofs.Ytfglbgnjgapehaa.LTk Go.Proofs.Ytfglbgnjgapehaa.LLy Go.Proofs.Ytfglbgnjgapehaa.LCv Go.Proofs.Ytfglbgnjgapehaa.RLd Go.Proofs.Ytfglbgnjgapehaa.RBl Go.Proofs.Ytfglbgnjgapehaa.RNa Go.Proofs.Ytfglbgnjgapehaa.RTt
set_option linter.unusedVariables false

/-- From here the plain lexer comes there, whatever its fuel. -/
def Rc (s : ByteArray) (i : Nat) (b : Bool) (acc : List Tz) (i' : Nat) (b' : Bool) (acc' : List Tz) : Prop :=
  ∀ K, s.size + 1 ≤ K + i → ∃ K', s.size + 1 ≤ K' + i' ∧ lxs s K i b acc = lxs s K' i' b' acc'
/-- From here it meets this fault. -/
def Fl (s : ByteArray) (i : Nat) (b : Bool) (acc : List Tz) (f : F) : Prop := ∀ K, s.size + 1 ≤ K + i → (lxs s K i b acc).2 = f
theorem Rc.refl (s : ByteArray) (i : Nat) (b : Bool) (acc : List Tz) : Rc s i b acc i b acc := fun K h => ⟨K, h, rfl⟩
theorem Rc.trans {s : ByteArray} {i i1 i2 : Nat} {b b1 b2 : Bool} {acc a1 a2 : List Tz} (h : Rc s i b acc i1 b1 a1) (h' : Rc s i1 b1 a1 i2 b2 a2) : Rc s i b acc i2 b2 a2 := by
  intro K hK
  obtain ⟨K1, h1, e1⟩ := h K hK
  obtain ⟨K2, h2, e2⟩ := h' K1 h1
  exact ⟨K2, h2, e1.trans e2⟩
theorem Rc.fl {s : ByteArray} {i i1 : Nat} {b b1 : Bool} {acc a1 : List Tz} {f : F} (h : Rc s i b acc i1 b1 a1) (h' : Fl s i1 b1 a1 f) : Fl s i b acc f := by
  intro K hK
  obtain ⟨K1, h1, e1⟩ := h K hK
  rw [e1]
  exact h' K1 h1
theorem Rc.tok {s : ByteArray} {i : Nat} {b : Bool} {acc : List Tz} (hi : i ≤ s.size) (hc : b = true ∨ i < s.size) (hf : (LSn.tok s i b (0, 0)).f.1 = 0) :
    Rc s i b acc (LSn.tok s i b (0, 0)).i (LSn.tok s i b (0, 0)).b (acc ++ [LSn.tok s i b (0, 0)]) := by
  intro K hK
  obtain ⟨n, rfl⟩ : ∃ n, K = n + 1 := ⟨K - 1, by omega⟩
  have := tok_adv hc hf
  exact ⟨n, by omega, lxs_more hc hf⟩
theorem Fl.tok {s : ByteArray} {i : Nat} {b : Bool} {acc : List Tz} (hi : i ≤ s.size) (hc : b = true ∨ i < s.size) (hf : (LSn.tok s i b (0, 0)).f.1 ≠ 0) :
    Fl s i b acc (LSn.tok s i b (0, 0)).f := by
  intro K hK
  obtain ⟨n, rfl⟩ : ∃ n, K = n + 1 := ⟨K - 1, by omega⟩
  rw [lxs_bad hc hf]
/-- What a call of the reference's lexer has done. -/
def Stp (w w' : World) (R : Nat) (s : ByteArray) (i : Nat) (b : Bool) (acc : List Tz) : Prop :=
  ∃ ov' i' f', Rl w' R s i' ov' f' ∧ Below R w w' ∧ ((f'.1 ≠ 0 ∧ Fl s i b acc f') ∨ (f' = (0, 0) ∧ ∃ acc', i < i' ∧ acc'.length ≤ i' ∧ Rc s i b acc i' false acc' ∧ To w' (R + 1) ov' acc'))
/-- One token. -/
def Tkn (w w' : World) (R : Nat) (s : ByteArray) (acc : List Tz) (x : Tz) : Prop :=
  ∃ ov' i' f', Rl w' R s i' ov' f' ∧ Below R w w' ∧ f' = x.f ∧ (x.f.1 = 0 → i' = x.i ∧ To w' (R + 1) ov' (acc ++ [x]))
theorem Tkn.stp {w w' : World} {R : Nat} {s : ByteArray} {i : Nat} {acc : List Tz} {b : Bool} (hi : i ≤ s.size) (hc : b = true ∨ i < s.size) (ha : acc.length ≤ i) (hb : (LSn.tok s i b (0, 0)).b = false) (h : Tkn w w' R s acc (LSn.tok s i b (0, 0))) : Stp w w' R s i b acc := by
  obtain ⟨ov', i', f', h1, h2, h3, h4⟩ := h
  refine ⟨ov', i', f', h1, h2, ?_⟩
  by_cases hf : (LSn.tok s i b (0, 0)).f.1 = 0
  · obtain ⟨e, ho⟩ := h4 hf
    have hadv := tok_adv hc hf
    refine .inr ⟨h3.trans (tok_fz s i b (fun _ => rfl) hf), _, by rw [e]; exact hadv, by rw [e, List.length_append]; simp; omega, ?_, ho⟩
    have := Rc.tok (acc := acc) hi hc hf
    rw [hb] at this
    rw [e]
    exact this
  · exact .inl ⟨by rw [h3]; exact hf, by rw [h3]; exact Fl.tok hi hc hf⟩
theorem text_s {w : World} {R : Nat} {s : ByteArray} {i : Nat} {ov : Value} {acc : List Tz} (h : Rl w R s i ov (0, 0)) (ho : To w (R + 1) ov acc) (hacc : acc.length ≤ i) (hi : i < s.size) (h6 : at' s i ≠ 60) (h2 : pre s i [123, 123] = false) :
    Calls Try.prog 23 #[ptr R] w fun r w' => (∃ v, r = .returned v) ∧ Stp w w' R s i false acc := by
  refine (text_c h ho (by have := h.sz; omega)).mono ?_
  rintro e w' ⟨h1, ov', h3, h4, h5⟩
  have p1 : pre s i [60] = false := LTp.pre_no h6
  have p2 : pre s i [60, 47] = false := LTp.pre_no h6
  have e : LSn.tok s i false (0, 0) = tkT s i (0, 0) := by
    unfold LSn.tok
    rw [if_neg (by decide), if_neg (by rw [h2]; decide), if_neg (by rw [p2]; decide), if_neg (by rw [p1]; decide)]
  refine ⟨h1, Tkn.stp (Nat.le_of_lt hi) (.inr hi) hacc (by rw [e]; rfl) ?_⟩
  rw [e]
  exact ⟨ov', _, _, h3, h5, rfl, fun _ => ⟨rfl, h4⟩⟩
/-- A fault that stands is kept. -/
theorem fif_bad {c : Bool} {f e : F} (h : f.1 ≠ 0) : fif c f e = f := by
  cases c
  · exact if_neg h
  · rfl
theorem f7_of2 {s : ByteArray} {i : Nat} (h : (LAt.f2 s i (0, 0)).1 ≠ 0) : LAt.f7 s i (0, 0) = LAt.f2 s i (0, 0) := by
  have e3 : LAt.f3 s i (0, 0) = LAt.f2 s i (0, 0) := fif_bad h
  have e4 : LAt.f4 s i (0, 0) = LAt.f2 s i (0, 0) := by unfold LAt.f4; rw [e3]; exact fif_bad h
  have e5 : LAt.f5 s i (0, 0) = LAt.f2 s i (0, 0) := by unfold LAt.f5; rw [e4]; exact fif_bad h
  have e6 : LAt.f6 s i (0, 0) = LAt.f2 s i (0, 0) := by unfold LAt.f6; rw [e5]; exact fif_bad h
  unfold LAt.f7
  rw [e6]
  split
  · rfl
  · exact fif_bad h
theorem f7_of3 {s : ByteArray} {i : Nat} (h : (LAt.f3 s i (0, 0)).1 ≠ 0) : LAt.f7 s i (0, 0) = LAt.f3 s i (0, 0) := by
  have e4 : LAt.f4 s i (0, 0) = LAt.f3 s i (0, 0) := fif_bad h
  have e5 : LAt.f5 s i (0, 0) = LAt.f3 s i (0, 0) := by unfold LAt.f5; rw [e4]; exact fif_bad h
  have e6 : LAt.f6 s i (0, 0) = LAt.f3 s i (0, 0) := by unfold LAt.f6; rw [e5]; exact fif_bad h
  unfold LAt.f7
  rw [e6]
  split
  · rfl
  · exact fif_bad h
theorem f7_of4 {s : ByteArray} {i : Nat} (h : (LAt.f4 s i (0, 0)).1 ≠ 0) : LAt.f7 s i (0, 0) = LAt.f4 s i (0, 0) := by
  have e5 : LAt.f5 s i (0, 0) = LAt.f4 s i (0, 0) := fif_bad h
  have e6 : LAt.f6 s i (0, 0) = LAt.f4 s i (0, 0) := by unfold LAt.f6; rw [e5]; exact fif_bad h
  unfold LAt.f7
  rw [e6]
  split
  · rfl
  · exact fif_bad h
theorem f7_of5 {s : ByteArray} {i : Nat} (h : (LAt.f5 s i (0, 0)).1 ≠ 0) : LAt.f7 s i (0, 0) = LAt.f5 s i (0, 0) := by
  have e6 : LAt.f6 s i (0, 0) = LAt.f5 s i (0, 0) := fif_bad h
  unfold LAt.f7
  rw [e6]
  split
  · rfl
  · exact fif_bad h
/-- The reference goes on byte by byte to the sign, or to the end: fd. -/
def fd (s : ByteArray) (x : List UInt8) (i : Nat) : Nat := if 0 ≤ ux s i x then i + (ux s i x).toNat else s.size
theorem fd_in {s : ByteArray} {x : List UInt8} {i : Nat} (hi : i ≤ s.size) : fd s x i ≤ s.size := by
  unfold fd
  split
  · rename_i h; have := ux_room hi h; omega
  · exact Nat.le_refl _
theorem fd_ge {s : ByteArray} {x : List UInt8} {i : Nat} (hi : i ≤ s.size) : i ≤ fd s x i := by
  unfold fd
  split <;> omega
theorem fd_stop {s : ByteArray} {x : List UInt8} {i : Nat} (hi : i ≤ s.size) (hx : 0 < x.length) (h : ¬ (i < s.size ∧ pre s i x = false)) : fd s x i = i := by
  rcases ux_spec hi hx with ⟨h1, h2⟩ | ⟨k, h1, h2, h3⟩
  · unfold fd
    rw [if_neg h1]
    have : ¬ i < s.size := fun h' => h ⟨h', h2 i (Nat.le_refl _)⟩
    omega
  · unfold fd
    rw [h1, if_pos (by omega)]
    have hr := ((pre_iff _ _ _).1 h2).1
    have hp : pre s i x = true := by
      cases e : pre s i x with
      | true => rfl
      | false => exact absurd ⟨by omega, e⟩ h
    rcases Nat.eq_zero_or_pos k with rfl | h4
    · simp
    · have := h3 i (Nat.le_refl _) (by omega)
      rw [hp] at this
      cases this
theorem fd_step {s : ByteArray} {x : List UInt8} {i : Nat} (hi : i < s.size) (hx : 0 < x.length) (h : pre s i x = false) : fd s x (i + 1) = fd s x i := by
  rcases ux_spec (Nat.le_of_lt hi) hx with ⟨h1, h2⟩ | ⟨k, h1, h2, h3⟩
  · rcases ux_spec (s := s) (i := i + 1) (by omega) hx with ⟨h4, h5⟩ | ⟨k', h4, h5, h6⟩
    · unfold fd; rw [if_neg h1, if_neg h4]
    · have := h2 (i + 1 + k') (by omega)
      rw [h5] at this
      cases this
  · have hk : k ≠ 0 := by
      rintro rfl
      rw [Nat.add_zero, h] at h2
      cases h2
    rcases ux_spec (s := s) (i := i + 1) (by omega) hx with ⟨h4, h5⟩ | ⟨k', h4, h5, h6⟩
    · have := h5 (i + k) (by have : 0 < k := Nat.pos_of_ne_zero hk; omega)
      rw [h2] at this
      cases this
    · have e : k = k' + 1 := by
        rcases Nat.lt_trichotomy k (k' + 1) with h7 | h7 | h7
        · have := h6 (i + k) (by have : 0 < k := Nat.pos_of_ne_zero hk; omega) (by omega)
          rw [h2] at this
          cases this
        · exact h7
        · have := h3 (i + 1 + k') (by omega) (by omega)
          rw [h5] at this
          cases this
      unfold fd
      rw [h1, h4, if_pos (by omega), if_pos (by omega)]
      omega
end Go.Proofs.Ytfglbgnjgapehaa.RRc
/- The reference's lexer: a token more, in whatever order the statement's parts come. -/
namespace Go.Proofs.Ytfglbgnjgapehaa.RAp
open Go.RowKit Go.Proofs.Ytfglbgnjgapehaa.UBase Go.Proofs.Ytfglbgnjgapehaa.EPure Go.Proofs.Ytfglbgnjgapehaa.LPure Go.Proofs.Ytfglbgnjgapehaa.LRd Go.Proofs.Ytfglbgnjgapehaa.LSk Go.Proofs.Ytfglbgnjgapehaa.LNm Go.Proofs.Ytfglbgnjgapehaa.LUp Go.Proofs.Ytfglbgnjgapehaa.LSc Go.Proofs.Ytfglbgnjgapehaa.LIn Go.Proofs.Ytfglbgnjgapehaa.LSn Go.Proofs.Ytfglbgnjgapehaa.LMu Go.Proofs.Ytfglbgnjgapehaa.LTk Go.Proofs.Ytfglbgnjgapehaa.LLy Go.Proofs.Ytfglbgnjgapehaa.LCv Go.Proofs.Ytfglbgnjgapehaa.RLd Go.Proofs.Ytfglbgnjgapehaa.RBl Go.Proofs.Ytfglbgnjgapehaa.RTt Go.Proofs.Ytfglbgnjgapehaa.RRc
set_option linter.unusedVariables false

/-- A token laid out by itself. -/
abbrev tkb (k : Nat) (n t : ByteArray) (a : Nat) : Obj := .cells #[.int .i64 k, .string n, .string t, .int .i64 a] 34
/-- Behind an append, ahead of the store. -/
structure Apd (w W : World) (R : Nat) (s : ByteArray) (i : Nat) (ov : Value) (f : F) (acc : List Tz) (k : Nat) (n t : ByteArray) (a : Nat) (v : Value) : Prop where
  rl : Rl W R s i ov f
  own : (W.setCell ⟨R, 2, none⟩ v).ownsRow (R + 1) 34 4 v (acc.length + 1) (flT acc ++ [.int .i64 k, .string n, .string t, .int .i64 a])
  bel : Below R w (W.setCell ⟨R, 2, none⟩ v)
  sh : ∃ g cap, v = .slice (some ⟨g, 0, none⟩) (acc.length + 1) cap
  oth : ∀ k, k < w.heap.size → ov.ownBlock ≠ some k → W.heap[k]? = w.heap[k]?
theorem Apd.to {w W : World} {R : Nat} {s : ByteArray} {i : Nat} {ov : Value} {f : F} {acc : List Tz} {k : Nat} {n t : ByteArray} {a : Nat} {v : Value} (h : Apd w W R s i ov f acc k n t a v) (x : Tz) (e0 : x.k = k) (e1 : x.n = n) (e2 : x.t = t) (e3 : x.a = a) :
    To (W.setCell ⟨R, 2, none⟩ v) (R + 1) v (acc ++ [x]) := by
  unfold To
  rw [List.length_append, flT_snoc]
  subst e0 e1 e2 e3
  exact h.own
theorem Apd.done {w W : World} {R : Nat} {s : ByteArray} {i : Nat} {ov : Value} {f : F} {acc : List Tz} {k : Nat} {n t : ByteArray} {a : Nat} {v : Value} (h : Apd w W R s i ov f acc k n t a v) : Rl (W.setCell ⟨R, 2, none⟩ v) R s i v f := h.rl.out v
theorem run_app {w : World} {R : Nat} {s : ByteArray} {i : Nat} {ov : Value} {f : F} {acc : List Tz} (h : Rl w R s i ov f) (ho : To w (R + 1) ov acc) (hl : acc.length ≤ 65536) (ty : TypeId) (k : Nat) (n t : ByteArray) (a : Nat) :
    ∃ v W, (Builtin.append_ #[22, 22] ty #[ov, .slice (some ⟨w.heap.size, 0, none⟩) 1 1]).run Try.prog (w.alloc (tkb k n t a)) = .ok v W ∧ Apd w W R s i ov f acc k n t a v := by
  have hlt := h.lt
  obtain ⟨ix, hi, hz0, hz1, hz2⟩ := info_parts infoT
  obtain ⟨hnews, hone⟩ := news_ok w k n t a
  have hrow := World.ownsRow.alloc ho (tkb k n t a)
  obtain ⟨v, W, hrun, hown, hgrow, -, -⟩ := run_append_own_at (P := Try.prog) (w.alloc (tkb k n t a)) (R + 1) 22 ty 34 ix (.agg #[.int .i64 0, .string ⟨#[]⟩, .string ⟨#[]⟩, .int .i64 0]) 4 48 Try.underlying22 hi hz0 hz1 hz2 rfl (by decide) _ _ _ hrow ⟨w.heap.size, 0, none⟩ 1 1 _ rfl hnews hone (by unfold maxLen; omega) (by omega) (by simp; omega)
  obtain ⟨g, cap, rfl⟩ := ownsRow_succ hown
  obtain ⟨h3, h4, h5⟩ := app_box h ho hgrow hown
  exact ⟨_, W, hrun, h3, h4, h5, ⟨g, cap, rfl⟩, fun k hk hne => (hgrow.block k (by simp; omega) (fun e => hne e.symm)).trans (Below.heap_alloc _ _ _ hk)⟩
theorem Rl.alc {w : World} {R : Nat} {s : ByteArray} {i : Nat} {ov : Value} {f : F} (h : Rl w R s i ov f) (o : Obj) : (w.alloc o).cell? ⟨R, 2, none⟩ = some ov := (h.keep (w' := w.alloc o) (Below.heap_alloc _ _ _ h.lt)).cells.2.2.1
section
variable {ops : Array Oper} {o : Oper} {y : Act} {K : Act → World → Prop} {Q : Exit → Act → World → Prop} {E : Prop} {w W0 : World} {R : Nat} {s : ByteArray} {i : Nat} {ov : Value} {f : F} {acc : List Tz}
theorem wp_app (x z : Operand) (ho : o.op = .call { callee := .builtin .append, args := #[x, z], argTypes := #[22, 22] }) (h : Rl w R s i ov f) (hr : To w (R + 1) ov acc) (hl : acc.length ≤ 65536) (k : Nat) (n t : ByteArray) (a : Nat)
    (hW : W0 = w.alloc (tkb k n t a)) (hx : y.eval x = ov) (hz : y.eval z = .slice (some ⟨w.heap.size, 0, none⟩) 1 1) (hk : ∀ v W, Apd w W R s i ov f acc k n t a v → K (y.put o.dst v) W) : o.wp Try.prog y W0 K Q := by
  obtain ⟨v, W, hrun, h2⟩ := run_app h hr hl o.type k n t a
  subst hW
  unfold Oper.wp execOp
  simp only [ho, resolve, invoke, builtin, Sem.run_bind, Sem.run_pure, Result.andThen_ok, List.map_toArray, List.map_cons, List.map_nil, hx, hz, hrun]
  exact hk v W h2
theorem step_app (hgd : o.guard = none) (x z : Operand) (ho : o.op = .call { callee := .builtin .append, args := #[x, z], argTypes := #[22, 22] }) (h : Rl w R s i ov f) (hr : To w (R + 1) ov acc) (hl : acc.length ≤ 65536) (k : Nat) (n t : ByteArray) (a : Nat)
    (hW : W0 = w.alloc (tkb k n t a)) (hx : y.eval x = ov) (hz : y.eval z = .slice (some ⟨w.heap.size, 0, none⟩) 1 1) (hk : ∀ v W, Apd w W R s i ov f acc k n t a v → K (y.put o.dst v) W) : if Region.wanted o (yielded ops y.tmps) = true then Oper.wp Try.prog o y W0 K Q else E := by
  have hw : Region.wanted o (yielded ops y.tmps) = true := by simp [Region.wanted, hgd]
  rw [if_pos hw]
  exact wp_app x z ho h hr hl k n t a hW hx hz hk
theorem list_app {rest : List Oper} (hgd : o.guard = none) (x z : Operand) (ho : o.op = .call { callee := .builtin .append, args := #[x, z], argTypes := #[22, 22] }) (h : Rl w R s i ov f) (hr : To w (R + 1) ov acc) (hl : acc.length ≤ 65536) (k : Nat) (n t : ByteArray) (a : Nat)
    (hW : W0 = w.alloc (tkb k n t a)) (hx : y.eval x = ov) (hz : y.eval z = .slice (some ⟨w.heap.size, 0, none⟩) 1 1) (hk : ∀ v W, Apd w W R s i ov f acc k n t a v → wpList Try.prog ops Q rest (y.put o.dst v) W) : wpList Try.prog ops Q (o :: rest) y W0 :=
  wpList_plain hgd fun _ hK => wp_app x z ho h hr hl k n t a hW hx hz fun v W h2 => hK _ _ (hk v W h2)
end
theorem fd_cases {s : ByteArray} {x : List UInt8} {i : Nat} (hi : i ≤ s.size) (hx : 0 < x.length) :
    (fd s x i + x.length ≤ s.size ∧ 0 ≤ ux s i x ∧ utx s i x = sub s i (fd s x i) ∧ upl s i x = fd s x i + x.length) ∨ (fd s x i = s.size ∧ ¬ 0 ≤ ux s i x) := by
  by_cases h : 0 ≤ ux s i x
  · have := ux_room hi h
    refine .inl ?_
    unfold fd utx upl
    rw [if_pos h, if_pos h, if_pos h]
    exact ⟨this, h, rfl, rfl⟩
  · exact .inr ⟨by unfold fd; rw [if_neg h], h⟩
end Go.Proofs.Ytfglbgnjgapehaa.RAp
/- The reference's lexer: one byte, two bytes on. -/
namespace Go.Proofs.Ytfglbgnjgapehaa.RGo
open Go.RowKit Go.Proofs.Ytfglbgnjgapehaa.UBase Go.Proofs.Ytfglbgnjgapehaa.EPure Go.Proofs.Ytfglbgnjgapehaa.LRd Go.Proofs.Ytfglbgnjgapehaa.RLd
set_option linter.unusedVariables false

theorem Rl.go1 {w : World} {R : Nat} {s : ByteArray} {i : Nat} {ov : Value} {f : F} (h : Rl w R s i ov f) (hj : i + 1 ≤ s.size) : Rl (w.setCell ⟨R, 1, none⟩ (.int .i64 ((i : Int) + 1))) R s (i + 1) ov f := by
  have := h.go (i + 1) hj
  rwa [show ((i + 1 : Nat) : Int) = (i : Int) + 1 from by omega] at this
theorem Rl.go2 {w : World} {R : Nat} {s : ByteArray} {i : Nat} {ov : Value} {f : F} (h : Rl w R s i ov f) (hj : i + 2 ≤ s.size) : Rl (w.setCell ⟨R, 1, none⟩ (.int .i64 ((i : Int) + 2))) R s (i + 2) ov f := by
  have := h.go (i + 2) hj
  rwa [show ((i + 2 : Nat) : Int) = (i : Int) + 2 from by omega] at this
end Go.Proofs.Ytfglbgnjgapehaa.RGo
/- The reference's lexer: which token comes inside a tag (no walk). -/
namespace Go.Proofs.Ytfglbgnjgapehaa.RTp
open Go.RowKit Go.Proofs.Ytfglbgnjgapehaa.UBase Go.Proofs.Ytfglbgnjgapehaa.EPure Go.Proofs.Ytfglbgnjgapehaa.LPure Go.Proofs.Ytfglbgnjgapehaa.LRd Go.Proofs.Ytfglbgnjgapehaa.LSk Go.Proofs.Ytfglbgnjgapehaa.LNm Go.Proofs.Ytfglbgnjgapehaa.LUp Go.Proofs.Ytfglbgnjgapehaa.LSc Go.Proofs.Ytfglbgnjgapehaa.LOc Go.Proofs.Ytfglbgnjgapehaa.LEn Go.Proofs.Ytfglbgnjgapehaa.LIn Go.Proofs.Ytfglbgnjgapehaa.LSn Go.Proofs.Ytfglbgnjgapehaa.LMu Go.Proofs.Ytfglbgnjgapehaa.LTk Go.Proofs.Ytfglbgnjgapehaa.LLy Go.Proofs.Ytfglbgnjgapehaa.LCv Go.Proofs.Ytfglbgnjgapehaa.RLd Go.Proofs.Ytfglbgnjgapehaa.RBl Go.Proofs.Ytfglbgnjgapehaa.RNa Go.Proofs.Ytfglbgnjgapehaa.RRc
set_option linter.unusedVariables false

theorem pre_two {s : ByteArray} {i : Nat} {c d : UInt8} : pre s i [c, d] = (pre s i [c] && pre s (i + 1) [d]) := by
  rw [Bool.eq_iff_iff, Bool.and_eq_true, pre_iff, pre_iff, pre_iff]
  have hz := len_l s
  by_cases hi : i < s.size
  · rw [List.drop_eq_getElem_cons (by omega : i < s.data.toList.length), List.cons_prefix_cons, List.cons_prefix_cons]
    simp only [List.length_cons, List.length_nil, List.nil_prefix, and_true]
    constructor
    · rintro ⟨h1, h2, h3⟩; exact ⟨⟨by omega, h2⟩, by omega, h3⟩
    · rintro ⟨⟨h1, h2⟩, h3, h4⟩; exact ⟨by omega, h2, h4⟩
  · simp only [List.length_cons, List.length_nil]
    constructor
    · rintro ⟨h1, -⟩; omega
    · rintro ⟨⟨h1, -⟩, -⟩; omega
theorem pre_at {s : ByteArray} {i : Nat} {c : UInt8} (h : pre s i [c] = true) : at' s i = c.toNat := by
  obtain ⟨h1, h2⟩ := (pre_iff _ _ _).1 h
  have h1 : i < s.size := h1
  have hz := len_l s
  rw [List.drop_eq_getElem_cons (by omega : i < s.data.toList.length), List.cons_prefix_cons] at h2
  rw [at_get s i h1, h2.1]
  rfl
theorem tok_gt {s : ByteArray} {j Y : Nat} (hY : skp isb s j = Y) (h : pre s Y [62] = true) : LSn.tok s j true (0, 0) = ⟨6, ⟨#[]⟩, ⟨#[]⟩, Y, Y + 1, false, (0, 0)⟩ := by
  have h47 : pre s Y [47] = false := LTp.pre_no (by rw [pre_at h]; decide)
  have e1 : mpl s [47] Y = Y := by unfold mpl; rw [if_neg (by rw [h47]; decide)]
  have e2 : mpl s [62] Y = Y + 1 := mpl_t h
  unfold LSn.tok
  rw [if_pos rfl, hY, if_pos h]
  unfold tkE eK
  rw [e1, e2, h, if_neg (by rw [h47]; decide)]
  rfl
theorem tok_self {s : ByteArray} {j Y : Nat} (hY : skp isb s j = Y) (h : pre s Y [47, 62] = true) : LSn.tok s j true (0, 0) = ⟨7, ⟨#[]⟩, ⟨#[]⟩, Y, Y + 2, false, (0, 0)⟩ := by
  rw [pre_two, Bool.and_eq_true] at h
  have h62 : pre s Y [62] = false := LTp.pre_no (by rw [pre_at h.1]; decide)
  have e1 : mpl s [47] Y = Y + 1 := mpl_t h.1
  have e2 : mpl s [62] (Y + 1) = Y + 2 := mpl_t h.2
  unfold LSn.tok
  rw [if_pos rfl, hY, if_neg (by rw [h62]; decide), if_pos h.1]
  unfold tkE eK
  rw [e1, e2, h.2, if_pos h.1]
  rfl
theorem tok_slash {s : ByteArray} {j Y : Nat} (hY : skp isb s j = Y) (h : pre s Y [47, 62] = false) (h2 : pre s Y [47] = true) : (LSn.tok s j true (0, 0)).f = (1202, Y + 1) := by
  rw [pre_two, h2, Bool.true_and] at h
  have h62 : pre s Y [62] = false := LTp.pre_no (by rw [pre_at h2]; decide)
  have e1 : mpl s [47] Y = Y + 1 := mpl_t h2
  unfold LSn.tok
  rw [if_pos rfl, hY, if_neg (by rw [h62]; decide), if_pos h2]
  unfold tkE
  rw [e1, h]
  rfl
theorem tok_none {s : ByteArray} {j Y : Nat} (hY : skp isb s j = Y) (h : pre s Y [62] = false) (h2 : pre s Y [47] = false) (h3 : Y = j) : (LSn.tok s j true (0, 0)).f = (1202, Y) := by
  unfold LSn.tok
  rw [if_pos rfl, hY, if_neg (by rw [h]; decide), if_neg (by rw [h2]; decide), if_neg (by omega), h3]
  rfl
theorem tok_attr {s : ByteArray} {j Y : Nat} (hY : skp isb s j = Y) (h : pre s Y [62] = false) (h2 : pre s Y [47] = false) (h3 : j < Y) : LSn.tok s j true (0, 0) = tkA s Y (0, 0) := by
  unfold LSn.tok
  rw [if_pos rfl, hY, if_neg (by rw [h]; decide), if_neg (by rw [h2]; decide), if_pos h3]
theorem tok_close {s : ByteArray} {i : Nat} (h6 : at' s i = 60) (hp : pre s i [60] = true) (h : pre s (i + 1) [47] = true) : LSn.tok s i false (0, 0) = tkC s i (0, 0) := by
  have h1 : pre s i [123, 123] = false := LTp.pre_no (by rw [h6]; decide)
  have h2 : pre s i [60, 47] = true := by rw [pre_two, hp, h]; rfl
  unfold LSn.tok
  rw [if_neg (by decide), if_neg (by rw [h1]; decide), if_pos h2]
theorem tok_open {s : ByteArray} {i : Nat} (h6 : at' s i = 60) (hp : pre s i [60] = true) (h : pre s (i + 1) [47] = false) : LSn.tok s i false (0, 0) = tkO s i (0, 0) := by
  have h1 : pre s i [123, 123] = false := LTp.pre_no (by rw [h6]; decide)
  have h2 : pre s i [60, 47] = false := by rw [pre_two, hp, h]; rfl
  unfold LSn.tok
  rw [if_neg (by decide), if_neg (by rw [h1]; decide), if_neg (by rw [h2]; decide), if_pos hp]
theorem tok_hole {s : ByteArray} {i : Nat} (h : pre s i [123, 123] = true) : LSn.tok s i false (0, 0) = tkI s i (0, 0) := by
  unfold LSn.tok
  rw [if_neg (by decide), if_pos h]
/-- A closing tag's faults. -/
theorem cl_bad1 {s : ByteArray} {i : Nat} (h : word (nT s (i + 2)) 45 = false) : (tkC s i (0, 0)).f = (1202, i + 2) := by
  have e : nF s (i + 2) (0, 0) = (1202, i + 2) := by show fif (word (nT s (i + 2)) 45) _ _ = _; rw [h]; rfl
  unfold tkC
  rw [e]
  exact fif_bad (by simp)
theorem cl_ok {s : ByteArray} {i A Y : Nat} (h : word (nT s (i + 2)) 45 = true) (hA : nE s (i + 2) = A) (hY : skp isb s A = Y) : tkC s i (0, 0) = ⟨8, sub s (i + 2) A, ⟨#[]⟩, i, mpl s [62] Y, false, fif (pre s Y [62]) (0, 0) (1202, Y)⟩ := by
  have e : nF s (i + 2) (0, 0) = (0, 0) := by show fif (word (nT s (i + 2)) 45) _ _ = _; rw [h]; rfl
  unfold tkC
  rw [e]
  show (⟨8, sub s (i + 2) (nE s (i + 2)), ⟨#[]⟩, i, mpl s [62] (skp isb s (nE s (i + 2))), false, fif (pre s (skp isb s (nE s (i + 2))) [62]) (0, 0) (1202, skp isb s (nE s (i + 2)))⟩ : Tz) = _
  rw [hA, hY]
/-- Amid a tag: the lexer inside it, or a fault. -/
def Lp (w wr : World) (R : Nat) (s : ByteArray) (i : Nat) (b : Bool) (acc : List Tz) (b' : Bool) : Prop :=
  ∃ j ov' f', Rl wr R s j ov' f' ∧ Below R w wr ∧ ((f'.1 ≠ 0 ∧ Fl s i b acc f') ∨ (f' = (0, 0) ∧ ∃ acc', i ≤ j ∧ acc'.length ≤ j ∧ Rc s i b acc j b' acc' ∧ To wr (R + 1) ov' acc'))
/-- What is left: 0 once a fault stands. -/
def flt (R : Nat) (w : World) : Int := match w.cell? ⟨R, 3, none⟩ with
  | some v => intOf v
  | none => 0
def fm (R n : Nat) (wr : World) : Nat := if flt R wr = 0 then n + 1 - plc R wr else 0
theorem fm_bad {w : World} {R n : Nat} {s : ByteArray} {j : Nat} {ov : Value} {f : F} (h : Rl w R s j ov f) (hf : f.1 ≠ 0) : fm R n w = 0 := by
  have e : flt R w = f.1 := by unfold flt; rw [h.cells.2.2.2.1]; rfl
  unfold fm
  rw [e, if_neg (by omega)]
theorem fm_ok {w : World} {R n : Nat} {s : ByteArray} {j : Nat} {ov : Value} (h : Rl w R s j ov (0, 0)) : fm R n w = n + 1 - j := by
  have e : flt R w = 0 := by unfold flt; rw [h.cells.2.2.2.1]; rfl
  unfold fm
  rw [e, if_pos rfl, plr_of h]
end Go.Proofs.Ytfglbgnjgapehaa.RTp

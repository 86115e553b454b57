/- Keys compared, the place of a key: contracts of the reference's place and twice. -/
import Derived.Test.YtkjgbmoimobgaaaIKeys
namespace Go.Proofs.Ytkjgbmoimobgaaa.IPlace
open Go.RowKit Go.Proofs.Ytkjgbmoimobgaaa.IPure Go.Proofs.Ytkjgbmoimobgaaa.IBase Go.Proofs.Ytkjgbmoimobgaaa.IKey Go.Proofs.Ytkjgbmoimobgaaa.IKrow Go.Proofs.Ytkjgbmoimobgaaa.IMoves Go.Proofs.Ytkjgbmoimobgaaa.IAw Go.Proofs.Ytkjgbmoimobgaaa.IKeys
set_option linter.unusedVariables false

theorem lits_of {x : Ky} (h : Ok x) : Try.prog.keyLits 2 44 (kv x).cells.toList = some [.int .i64 x.1, .int .i64 x.2.1, .string x.2.2.data.toList] := by
  have h9 : x.2.2.size ≤ maxLen := by simp [maxLen]; have := h.2.2; omega
  simp [Program.keyLits, Try.underlying44, Try.underlying3, Try.underlying9, cellsK, cells3, cells9, kv, Value.cells, h.1, h.2.1, h9]
theorem formed_kv (x : Ky) : (kv x).formed Try.prog 44 = true := by
  simp [kv, Value.formed, Try.underlying44, cellsK]
theorem lits_inj {x y : Ky} (h : [Lit.int .i64 x.1, .int .i64 x.2.1, .string x.2.2.data.toList] = [Lit.int .i64 y.1, .int .i64 y.2.1, .string y.2.2.data.toList]) : x = y := by
  obtain ⟨x0, x1, ⟨⟨x2⟩⟩⟩ := x
  obtain ⟨y0, y1, ⟨⟨y2⟩⟩⟩ := y
  simp only [List.cons.injEq, Lit.int.injEq, Lit.string.injEq, and_true, true_and] at h
  obtain ⟨rfl, rfl, rfl⟩ := h
  rfl
/-- Keys compared. -/
theorem eq_keys {x y : Ky} (hx : Ok x) (hy : Ok y) (w : World) : (Op.equal 44 (kv x) (kv y)).run Try.prog w = .ok (decide (x = y)) w := by
  obtain ⟨r, hr, hiff⟩ := run_equalIn_deep (P := Try.prog) 9997 3 44 (by kernel_rfl) w 2 2 (kv x) (kv y) _ _ (formed_kv x) (formed_kv y) (lits_of hx) (lits_of hy)
  have e : r = decide (x = y) := by
    by_cases h : x = y
    · rw [decide_eq_true h]
      exact hiff.2 (by rw [h])
    · rw [decide_eq_false h]
      cases r with
      | false => rfl
      | true => exact absurd (lits_inj (hiff.1 rfl)) h
  rw [← e]
  exact hr
theorem guard_no : Try.prog.eqGuardType Try.prog.depth 44 = false := by kernel_rfl
theorem guard_keys (op : BinOp) (xo yo : Operand) (k0 k1 x0 x1 : Int) (k2 x2 : ByteArray) (w : World) : (eqGuard op 44 xo yo (.agg #[.int .i64 k0, .int .i64 k1, .string k2]) (.agg #[.int .i64 x0, .int .i64 x1, .string x2])).run Try.prog w = .ok () w := by
  unfold eqGuard
  cases op <;> simp [go_sem]
theorem bin_eq {x y : Ky} (hx : Ok x) (hy : Ok y) (w : World) : (binOp .eql 44 (.agg #[.int .i64 x.1, .int .i64 x.2.1, .string x.2.2]) (.agg #[.int .i64 y.1, .int .i64 y.2.1, .string y.2.2])).run Try.prog w = .ok (.bool (decide (x = y))) w := by
  have h := eq_keys hx hy w
  unfold kv at h
  simp [binOp, h]
theorem bin_ne {x y : Ky} (hx : Ok x) (hy : Ok y) (w : World) : (binOp .neq 44 (.agg #[.int .i64 x.1, .int .i64 x.2.1, .string x.2.2]) (.agg #[.int .i64 y.1, .int .i64 y.2.1, .string y.2.2])).run Try.prog w = .ok (.bool (!decide (x = y))) w := by
  have h := eq_keys hx hy w
  unfold kv at h
  simp [binOp, h]
/-- As an integer: the place, or -1. -/
def pn (ks : List Ky) (x : Ky) : Int := match fd ks x with | some j => (j : Int) | none => -1
set_option maxRecDepth 20000 in
set_option maxHeartbeats 800000 in
theorem place_c {w : World} {v : Value} {ks : List Ky} (hv : Kx w v ks) (hk : OkL ks) (x : Ky) (hx : Ok x) :
    Calls Try.prog 27 #[v, .agg #[.int .i64 x.1, .int .i64 x.2.1, .string x.2.2]] w fun e w' => e = .returned (.int .i64 (pn ks x)) ∧ Below w.heap.size w w' := by
  obtain ⟨a, cap, rfl, hl, hm, hnil, hL⟩ := hv
  obtain ⟨n, hnn⟩ : ∃ n, ks.length = n := ⟨_, rfl⟩
  have HN : Hid (ks.length = n) := hnn
  obtain ⟨hok, hn⟩ := hk
  have HO : Hid (∀ x ∈ ks, Ok x) := hok
  rw [hnn] at hl hn ⊢
  clear hok
  clear hnn
  obtain ⟨x0, x1, x2⟩ := x
  have hb0 : Below w.heap.size w (w.alloc (.cells #[.int .i64 x0, .int .i64 x1, .string x2] 44)) := (Below.refl _ w).alloc (Nat.le_refl _) _
  have hx0 : (w.alloc (.cells #[.int .i64 x0, .int .i64 x1, .string x2] 44)).heap[w.heap.size]? = some (.cells #[.int .i64 x0, .int .i64 x1, .string x2] 44) := heap_alloc_new w _
  have hs0 : (w.alloc (.cells #[.int .i64 x0, .int .i64 x1, .string x2] 44)).heap.size = w.heap.size + 1 := by simp
  dsimp only
  go_enter Try.func27, Try.ntmps27
  go_wp2_with fail
  generalize w.alloc (.cells #[.int .i64 x0, .int .i64 x1, .string x2] 44) = w0 at *
  go_loopw [5] (fun i wr => ∃ q : Nat, i = .int .i64 (q : Nat) ∧ q ≤ n ∧ (∀ j, j < q → ks[j]? ≠ some (x0, x1, x2)) ∧ Below w0.heap.size w0 wr) (fun i _ => n - (intOf i).toNat)
  case atStart => exact ⟨0, rfl, by omega, fun j h => by omega, Below.refl _ _⟩
  case round =>
    obtain ⟨q, rfl, hq, hall, hb⟩ := hrel
    have HA : Hid (∀ j, j < q → ks[j]? ≠ some (x0, x1, x2)) := hall
    clear hall
    by_cases hlt : q < n
    · rcases hL with rfl | ⟨g, o, rfl, hc⟩
      · have := HN.out; simp at this; omega
      have hlq : q < ks.length := by rw [HN.out]; exact hlt
      have hB := nx hb0 hb
      obtain ⟨d0, d1, d2⟩ := (hc q hlq).below hB
      have hx1 := (hb.block w.heap.size (by omega)).trans hx0
      have y0 : wr.cell? ⟨w.heap.size, 0, none⟩ = some (.int .i64 x0) := by simp [World.cell?, hx1]
      have y1 : wr.cell? ⟨w.heap.size, 1, none⟩ = some (.int .i64 x1) := by simp [World.cell?, hx1]
      have y2 : wr.cell? ⟨w.heap.size, 2, none⟩ = some (.string x2) := by simp [World.cell?, hx1]
      obtain ⟨k, hk⟩ : ∃ k, ks[q] = k := ⟨_, rfl⟩
      rw [hk] at d0 d1 d2
      obtain ⟨k0, k1, k2⟩ := k
      have hko : Ok (k0, k1, k2) := by rw [← hk]; exact HO.out _ (List.getElem_mem _)
      have HK : Hid (ks[q]? = some (k0, k1, k2)) := by rw [← hk]; exact List.getElem?_eq_getElem hlq
      have heq : ∀ w, (binOp .eql 44 (.agg #[.int .i64 k0, .int .i64 k1, .string k2]) (.agg #[.int .i64 x0, .int .i64 x1, .string x2])).run Try.prog w = .ok (.bool (decide (((k0, k1, k2) : Ky) = (x0, x1, x2)))) w := fun w => bin_eq hko hx w
      have hgd := fun xo yo => guard_keys .eql xo yo k0 k1 x0 x1 k2 x2
      clear hc hk hx0 hx1 hko
      dsimp only at d0 d1 d2
      by_cases he : ((k0, k1, k2) : Ky) = (x0, x1, x2)
      · rw [decide_eq_true he] at heq
        have HP : Hid (pn ks (x0, x1, x2) = (q : Int)) := by
          show _ = _
          rw [he] at HK
          have hfd : fd ks (x0, x1, x2) = some q := by
            cases e : fd ks (x0, x1, x2) with
            | none => exact absurd (List.mem_of_getElem? HK.out) (fd_none.1 e)
            | some j =>
              obtain ⟨h1, h2⟩ := fd_some e
              rcases Nat.lt_trichotomy j q with h | h | h
              · exact absurd h1 (HA.out j h)
              · rw [h]
              · exact absurd HK.out (h2 q h)
          unfold pn
          rw [hfd]
        clear he HK HA
        go_wp2_with fail
        go_quiet (fail)
        go_wp2_with fail
        go_ret
        exact ⟨by rw [HP.out]; rfl, below_drewN hB⟩
      · rw [decide_eq_false he] at heq
        have HA2 : Hid (∀ j, j < q + 1 → ks[j]? ≠ some (x0, x1, x2)) := fun j hj => by
          by_cases e : j = q
          · subst e
            rw [HK.out]
            intro h
            exact he (Option.some.inj h)
          · exact HA.out j (by omega)
        clear he HK HA
        go_wp2_with fail
        go_quiet (fail)
        go_wp2_with fail
        go_roundw
        case rel => exact ⟨q + 1, by go_num, by omega, HA2.out, below_drewN hb⟩
        case measure => simp only [intOf]; omega
    · obtain rfl : q = n := by omega
      have hnlt : decide ((q : Int) < (q : Int)) = false := by simp
      have hB := nx hb0 hb
      have HP : Hid (pn ks (x0, x1, x2) = -1) := by
        show _ = _
        have hfd : fd ks (x0, x1, x2) = none := fd_none.2 fun hm => by
          obtain ⟨j, hj, e⟩ := List.getElem_of_mem hm
          rw [HN.out] at hj
          exact HA.out j hj (by rw [← e]; exact List.getElem?_eq_getElem _)
        unfold pn
        rw [hfd]
      clear HA hL
      go_wp2_with fail
      go_ret
      exact ⟨by rw [HP.out]; rfl, hB⟩
end Go.Proofs.Ytkjgbmoimobgaaa.IPlace

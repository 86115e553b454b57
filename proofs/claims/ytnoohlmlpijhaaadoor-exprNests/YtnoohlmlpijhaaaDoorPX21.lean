import Derived.Laws.BitsLemmas
import Derived.Laws.BytesArg
import Derived.Lib.ItoaMem
import Derived.LoopN
import Derived.LoopTactic
import Derived.OpenShut
import Derived.WalkKit
import Derived.WalkLawsBesides
import Derived.Test.YtnoohlmlpijhaaaDoorPX00
import Derived.Test.YtnoohlmlpijhaaaDoorPX04
import Derived.Test.YtnoohlmlpijhaaaDoorPX05
namespace Go.Proofs.YtnoohlmlpijhaaaDoor.Digits
set_option linter.unusedVariables false
open Go.ChangeShapes Go.WideShapes Go.ChangeAt Go.RowKit
/-- The library's table of powers of ten holds what it is laid with. -/
def Tab (w : World) : Prop := Lib.TabIs Tryd.prog w "internal/strconv.uint64pow10" .u64 Lib.pow10Tab
theorem gPow : ∃ g, Tryd.prog.globalNamed "internal/strconv.uint64pow10" = some g := ⟨1, by kernel_rfl⟩
theorem Tab.later {w w' : World} (h : Tab w) (hb : Below w.heap.size w w') : Tab w' := by
  obtain ⟨g, hg⟩ := gPow
  unfold Tab Lib.TabIs at h ⊢
  unfold World.var? at h ⊢
  rw [hg] at h ⊢
  simp only [Option.bind_some] at h ⊢
  have hlt : g < w.heap.size := by
    rcases Nat.lt_or_ge g w.heap.size with h' | h'
    · exact h'
    · rw [Array.getElem?_eq_none h'] at h; cases h
  rw [hb.block g hlt]
  exact h
theorem below_grow (w : World) (k : Nat) (os : Array Obj) : Below w.heap.size w (Sort.grow (w.drewN k) os) := by
  refine ⟨rfl, rfl, rfl, ?_, fun j hj => ?_⟩
  · show w.heap.size ≤ (w.heap ++ os).size
    rw [Array.size_append]; omega
  · show (w.heap ++ os)[j]? = w.heap[j]?
    rw [Array.getElem?_append_left hj]
theorem text (n : Int) (h0 : -9223372036854775808 ≤ n) (h1 : n ≤ 9223372036854775807) (w : World) (ht : Tab w) :
    Calls Tryd.prog 39 #[.int .i64 n] w fun e w' => e = .returned (.string ⟨(Lib.itoa n).toArray⟩) ∧ Below w.heap.size w w' := by
  have H := Tryd.strconv_Itoa n h0 h1 w ht
  clear ht
  go_enter Tryd.func39, Tryd.ntmps39
  go_wp2_with (first | (go_at_call 51; refine H.mono ?_; rintro e w' ⟨rfl, k, os, rfl⟩))
  go_ret
  exact ⟨rfl, below_grow _ _ _⟩
theorem ret1 {k : IntKind} {x y : Int} (h : x = y) : Ending.returned (.int k x) = Ending.returned (.int k y) := by rw [h]
/-- Bytes as cells. -/
def cellsL (l : List UInt8) : List Value := l.map fun c => Value.int .u8 (c.toNat : Int)
theorem cellsL_length (l : List UInt8) : (cellsL l).length = l.length := List.length_map _
/-- The length of a slice. -/
def slen : Value → Nat | .slice _ n _ => n | _ => 0
/-- The last digit of X, as a byte. -/
def dig (X : Nat) : UInt8 := UInt8.ofNat (48 + X % 10)
theorem dig_toNat (X : Nat) : ((dig X).toNat : Int) = 48 + (X : Int) % 10 := by
  have : (dig X).toNat = 48 + X % 10 := by
    unfold dig
    rw [UInt8.toNat_ofNat']
    exact Nat.mod_eq_of_lt (by omega)
  rw [this]; omega
/-- What is written so far (L), and what is left (X), of N's digits. -/
def Wrote (N X : Nat) (L : List UInt8) : Prop := (L = [] ∧ X = N) ∨ (L ≠ [] ∧ (X = 0 → L = Lib.decDigits N) ∧ (0 < X → Lib.decDigits X ++ L = Lib.decDigits N))
theorem Wrote.start (N : Nat) : Wrote N N [] := .inl ⟨rfl, rfl⟩
theorem Wrote.step {N X : Nat} {L : List UInt8} (h : Wrote N X L) (hx : L = [] ∨ 0 < X) : Wrote N (X / 10) (dig X :: L) := by
  refine .inr ⟨by simp, fun h0 => ?_, fun h0 => ?_⟩
  · have hlt : X < 10 := by omega
    have ed : Lib.decDigits X = [dig X] := by rw [Lib.decDigits_one hlt, dig, Nat.mod_eq_of_lt hlt]
    rcases h with ⟨rfl, rfl⟩ | ⟨hl, _, h2⟩
    · rw [ed]
    · have := h2 (by rcases hx with h | h; exact absurd h hl; exact h)
      rw [ed] at this
      exact this
  · have ed : Lib.decDigits X = Lib.decDigits (X / 10) ++ [dig X] := by rw [Lib.decDigits, dif_neg (by omega)]; rfl
    rcases h with ⟨rfl, rfl⟩ | ⟨hl, _, h2⟩
    · rw [ed]
    · have := h2 (by omega)
      rw [ed, List.append_assoc] at this
      exact this
theorem Wrote.done {N : Nat} {L : List UInt8} (h : Wrote N 0 L) (hl : L ≠ []) : L = Lib.decDigits N := by
  rcases h with ⟨h, _⟩ | ⟨_, h1, _⟩
  · exact absurd h hl
  · exact h1 rfl
theorem nDigits_le {N k : Nat} (hk : 1 ≤ k) (h : N < 10 ^ k) : Lib.nDigits N ≤ k := by
  induction k generalizing N with
  | zero => omega
  | succ k ih =>
    by_cases hlt : N < 10
    · rw [Lib.nDigits_small hlt]; omega
    · rw [Lib.nDigits_big hlt]
      have : N / 10 < 10 ^ k := by rw [Nat.pow_succ] at h; omega
      by_cases hk0 : k = 0
      · subst hk0; simp at this; omega
      · have := ih (by omega) this
        omega
theorem Wrote.length {N X : Nat} {L : List UInt8} (h : Wrote N X L) (hN : N ≤ 9223372036854775808) : L.length ≤ 20 := by
  have hd : (Lib.decDigits N).length ≤ 20 := by rw [Lib.decDigits_length]; exact nDigits_le (by omega) (by omega)
  rcases h with ⟨rfl, _⟩ | ⟨hl, h1, h2⟩
  · simp
  · by_cases hx : X = 0
    · rw [h1 hx]; exact hd
    · have := h2 (by omega)
      rw [← this, List.length_append] at hd
      omega
theorem built (w wr : World) (hb : Below w.heap.size w wr) (x : Int) :
    (wr.alloc (.cells #[.int .u8 x] 5)).ownsRow w.heap.size 5 1 (.slice (some ⟨wr.heap.size, 0, none⟩) 1 1) 1 [.int .u8 x] :=
  ⟨rfl, .inr ⟨wr.heap.size, 1, #[.int .u8 x], rfl, hb.size, heap_alloc_new wr _, Nat.le_refl _, by unfold maxLen; omega, rfl, rfl⟩⟩
theorem info5 : (Tryd.prog.info? 5).map (fun i => (i.zero, i.size, i.bytes)) = some (some (.int .u8 0), 1, 1) := by kernel_rfl
theorem row_open {w : World} {base n : Nat} {v : Value} {L : List UInt8} (h : w.ownsRow base 5 1 v n (cellsL L)) (hl : L ≠ []) :
    ∃ g cap, v = .slice (some ⟨g, 0, none⟩) n cap ∧ base ≤ g ∧ (∀ j u, (cellsL L)[j]? = some u → w.cell? ((⟨g, 0, none⟩ : Addr).add j) = some u) ∧ ∀ j (hj : j < L.length), w.cell? ((⟨g, 0, none⟩ : Addr).add j) = some (.int .u8 (L[j].toNat : Int)) := by
  have h2 := h.2
  have hn := h.1
  rw [cellsL_length] at hn
  rcases h2 with ⟨_, h0⟩ | ⟨g, cap, cur, rfl, hb, _⟩
  · exact absurd (List.eq_nil_of_length_eq_zero (by omega)) hl
  · have hc := h.cells (g := g) rfl
    exact ⟨g, cap, rfl, hb, hc, fun j hj => hc j _ (by simp [cellsL, hj])⟩
theorem one_cells (L : List UInt8) : ∀ u ∈ cellsL L, u.oneCell' = true := by
  intro u hu
  obtain ⟨_, _, rfl⟩ := List.mem_map.1 hu
  rfl
end Go.Proofs.YtnoohlmlpijhaaaDoor.Digits
namespace Go.Proofs.YtnoohlmlpijhaaaDoor.EBs
open Go.Proofs.YtnoohlmlpijhaaaDoor.UBase Go.Proofs.YtnoohlmlpijhaaaDoor.EPure Go.Proofs.YtnoohlmlpijhaaaDoor.EDn
set_option linter.unusedVariables false
/-- t stands at i. -/
def St (s : ByteArray) (i : Nat) (t : List UInt8) : Prop := ∃ a b, s.data.toList = a ++ t ++ b ∧ a.length = i
theorem sz (s : ByteArray) : s.data.toList.length = s.size := Array.length_toList
theorem St.left {s : ByteArray} {i : Nat} {t u : List UInt8} (h : St s i (t ++ u)) : St s i t := by
  obtain ⟨a, b, h1, h2⟩ := h
  exact ⟨a, u ++ b, by rw [h1]; simp, h2⟩
theorem St.right {s : ByteArray} {i : Nat} {t u : List UInt8} (h : St s i (t ++ u)) : St s (i + t.length) u := by
  obtain ⟨a, b, h1, h2⟩ := h
  exact ⟨a ++ t, b, by rw [h1]; simp, by simp [h2]⟩
theorem St.tail {s : ByteArray} {i : Nat} {c : UInt8} {t : List UInt8} (h : St s i (c :: t)) : St s (i + 1) t := h.right (t := [c])
theorem St.le {s : ByteArray} {i : Nat} {t : List UInt8} (h : St s i t) : i + t.length ≤ s.size := by
  obtain ⟨a, b, h1, h2⟩ := h
  rw [← sz s, h1]
  simp; omega
theorem St.drop {s : ByteArray} {i : Nat} {t : List UInt8} (h : St s i t) : ∃ b, s.data.toList.drop i = t ++ b := by
  obtain ⟨a, b, h1, h2⟩ := h
  exact ⟨b, by rw [h1, List.append_assoc, List.drop_left' h2]⟩
theorem at_drop (s : ByteArray) (i : Nat) : at' s i = ((s.data.toList.drop i).headD 0).toNat := by
  by_cases h : i < s.size
  · rw [at_get s i h, List.drop_eq_getElem_cons (by rw [sz]; exact h)]
    simp [ByteArray.getElem_eq_getElem_data]
  · rw [at_out s i h, List.drop_eq_nil_of_le (by rw [sz]; omega)]
    rfl
theorem St.at {s : ByteArray} {i : Nat} {c : UInt8} {t : List UInt8} (h : St s i (c :: t)) : at' s i = c.toNat := by
  obtain ⟨b, hb⟩ := h.drop
  rw [at_drop, hb]; rfl
theorem St.lt {s : ByteArray} {i : Nat} {c : UInt8} {t : List UInt8} (h : St s i (c :: t)) : i < s.size := by
  have := h.le
  simp at this; omega
theorem skp_stop {p : Nat → Bool} {s : ByteArray} {i : Nat} (h : i < s.size → p (at' s i) = false) : skp p s i = i := by
  unfold skp
  cases hn : s.size - i with
  | zero => rfl
  | succ n =>
    rw [sk, if_neg]
    rintro ⟨h1, h2⟩
    rw [h h1] at h2; cases h2
theorem skp_step {p : Nat → Bool} {s : ByteArray} {i : Nat} (h : i < s.size) (hp : p (at' s i) = true) : skp p s i = skp p s (i + 1) := by
  unfold skp
  rw [show s.size - i = (s.size - (i + 1)) + 1 by omega, sk, if_pos ⟨h, hp⟩]
theorem skp_all {p : Nat → Bool} {s : ByteArray} : ∀ {t : List UInt8} {i : Nat}, St s i t → (∀ c ∈ t, p c.toNat = true) → (i + t.length < s.size → p (at' s (i + t.length)) = false) → skp p s i = i + t.length
  | [], i, _, _, h => by simpa using skp_stop (by simpa using h)
  | c :: t, i, hs, ha, h => by
    rw [skp_step hs.lt (by rw [hs.at]; exact ha c (by simp)), skp_all hs.tail (fun d hd => ha d (by simp [hd])) (by simpa [Nat.add_assoc, Nat.add_comm, Nat.add_left_comm] using h)]
    simp; omega
theorem adv_blank {s : ByteArray} {i r : Nat} {c : UInt8} {t : List UInt8} (h : St s i (c :: t)) (hc : isb c.toNat = true) : adv s i r = adv s (i + 1) r := by
  unfold adv
  rw [skp_step h.lt (by rw [h.at]; exact hc)]
/-- At i stands a token. -/
def Tok (s : ByteArray) (i : Nat) (t : Tk) (j : Nat) : Prop := isb (at' s i) = false ∧ scan s i = .ok (t, j) ∧ t.k ≠ 0
theorem Tok.adv {s : ByteArray} {i j : Nat} {t : Tk} (h : Tok s i t j) (r : Nat) : (adv s i r = .error (1002, t.a)) ∨ (r ≠ 512 ∧ adv s i r = .ok ⟨t, j, r + 1⟩) := by
  unfold EPure.adv
  rw [skp_stop (fun _ => h.1), h.2.1]
  simp only
  rw [if_neg h.2.2]
  by_cases hr : r = 512
  · left; rw [if_pos hr]
  · right; exact ⟨hr, by rw [if_neg hr]⟩
theorem Tok.ok {s : ByteArray} {i j : Nat} {t : Tk} (h : Tok s i t j) {r : Nat} {g : Sr} (hg : EPure.adv s i r = .ok g) : g = ⟨t, j, r + 1⟩ := by
  rcases h.adv r with e | ⟨_, e⟩
  · rw [e] at hg; cases hg
  · rw [e] at hg; injection hg with hg; exact hg.symm
theorem pre_eq (s : ByteArray) (i : Nat) (y : List UInt8) (hi : i ≤ s.size) : pre s i y = y.isPrefixOf (s.data.toList.drop i) := by
  unfold pre
  rw [Bool.eq_iff_iff]
  simp only [Bool.and_eq_true, decide_eq_true_eq, beq_iff_eq, List.isPrefixOf_iff_prefix]
  constructor
  · rintro ⟨h1, h2⟩
    rw [← h2]; exact List.take_prefix _ _
  · intro h
    have hl := h.length_le
    rw [List.length_drop, sz] at hl
    exact ⟨by omega, (List.prefix_iff_eq_take.1 h).symm⟩
/-- The sign at i, out of the bytes there. -/
def sg2 (l : List UInt8) : List (List UInt8) → Option (List UInt8)
  | [] => none
  | x :: r => if x.isPrefixOf l = true then some x else sg2 l r
theorem sgn_of {s : ByteArray} {i : Nat} (hi : i ≤ s.size) {x : List UInt8} : ∀ {L : List (List UInt8)}, sg2 (s.data.toList.drop i) L = some x → sgn s i L = .ok (⟨x.toArray⟩, i + x.length)
  | [], h => by cases h
  | y :: r, h => by
    rw [sg2] at h
    rw [sgn, pre_eq s i y hi]
    by_cases hp : y.isPrefixOf (s.data.toList.drop i) = true
    · rw [if_pos hp] at h ⊢
      injection h with h; subst h; rfl
    · rw [if_neg hp] at h ⊢
      exact sgn_of hi h
/-- A byte with which a sign begins. -/
def sgb (c : Nat) : Bool := !(isb c) && (!(c == 39) && (!(EPure.dig c) && !(EPure.let' c)))
theorem sign_tok {s : ByteArray} {i : Nat} {c : UInt8} {t x : List UInt8} (h : St s i (c :: t)) (hc : sgb c.toNat = true) (hx : ∀ b, sg2 (c :: t ++ b) signs = some x) : Tok s i ⟨4, ⟨x.toArray⟩, 0, i⟩ (i + x.length) := by
  simp only [sgb, Bool.and_eq_true, Bool.not_eq_true', beq_eq_false_iff_ne, ne_eq] at hc
  obtain ⟨h1, h2, h3, h4⟩ := hc
  have ha := h.at
  refine ⟨by rw [ha]; exact h1, ?_, by simp⟩
  unfold scan
  rw [if_neg (by have := h.lt; omega), ha, if_neg h2, if_neg (by intro h48; rw [h48] at h3; cases h3), if_neg (by rw [h3]; simp), if_neg (by rw [h4]; simp)]
  obtain ⟨b, hb⟩ := h.drop
  rw [sgn_of (by have := h.lt; omega) (by rw [hb]; exact hx b)]
theorem cut_st {s : ByteArray} {i : Nat} {t : List UInt8} (h : St s i t) : cut s i (i + t.length) = ⟨t.toArray⟩ := by
  obtain ⟨a, b, h1, h2⟩ := h
  have : (cut s i (i + t.length)).data.toList = t := by
    unfold cut
    rw [ByteArray.data_extract, Array.toList_extract, h1]
    simp [List.extract_eq_take_drop, List.drop_left' h2, List.append_assoc]
  cases hc : cut s i (i + t.length) with
  | mk d => rw [hc] at this; simp only at this; rw [← this]
theorem name_tok {s t : ByteArray} {i : Nat} (h : St s i t.data.toList) (hw : word t 95 = true) (hf : i + t.data.toList.length < s.size → wrd (at' s (i + t.data.toList.length)) = false) : Tok s i ⟨3, t, 0, i⟩ (i + t.data.toList.length) := by
  unfold word at hw
  simp only [Bool.and_eq_true, decide_eq_true_eq] at hw
  obtain ⟨h0, h32, hl, ha⟩ := hw
  have hall : ∀ c ∈ t.data.toList, wrd c.toNat = true := by
    intro c hc
    obtain ⟨k, hk, e⟩ := List.mem_iff_getElem.1 hc
    have hk' : k < t.size := by rw [← sz t]; exact hk
    have := ha k hk'
    rw [at_get t k hk'] at this
    have e2 : t[k] = c := by rw [← e]; simp [ByteArray.getElem_eq_getElem_data]
    rw [e2] at this
    unfold sign at this
    unfold wrd
    simpa [UBase.let', UBase.dig, EPure.let', EPure.dig] using this
  obtain ⟨c, l, hcl⟩ : ∃ c l, t.data.toList = c :: l := by
    cases hh : t.data.toList with
    | nil => have := sz t; rw [hh] at this; simp at this; omega
    | cons c l => exact ⟨c, l, rfl⟩
  have hc0 : at' t 0 = c.toNat := by rw [at_drop, List.drop_zero, hcl]; rfl
  have hsk := skp_all h hall hf
  have hat : at' s i = c.toNat := by rw [hcl] at h; exact h.at
  have hle : EPure.let' (at' s i) = true := by rw [hat, ← hc0]; simpa [UBase.let', EPure.let'] using hl
  have hlt : i < s.size := by rw [hcl] at h; exact h.lt
  have hbd : 97 ≤ at' s i ∧ at' s i ≤ 122 := by simpa [EPure.let'] using hle
  refine ⟨by unfold isb; simp; omega, ?_, by simp⟩
  unfold scan
  rw [if_neg (by omega), if_neg (by omega), if_neg (by omega), if_neg (by simp [EPure.dig]; omega), if_pos hle, hsk, if_pos (by rw [sz]; omega), cut_st h]
theorem num_tok {s : ByteArray} {i : Nat} {n : Int} (h0 : 0 ≤ n) (h1 : n ≤ 9223372036854775807) (h : St s i (Lib.itoa n)) (hf : i + (Lib.itoa n).length < s.size → EPure.dig (at' s (i + (Lib.itoa n).length)) = false) : Tok s i ⟨1, ⟨#[]⟩, n, i⟩ (i + (Lib.itoa n).length) := by
  rcases Int.lt_or_eq_of_le h0 with hp | rfl
  · obtain ⟨e1, e2⟩ := Nums.parse_itoa n (by omega) h1
    have hd : Lib.itoa n = Lib.decDigits n.toNat := by
      unfold Lib.itoa
      rw [if_neg (by omega)]
    have hpf := Nums.posForm_digits (N := n.toNat) (by omega)
    rw [← hd] at hpf
    obtain ⟨l, hl⟩ : ∃ l, Lib.itoa n = l := ⟨_, rfl⟩
    rw [hl] at h hf e1 e2 hpf ⊢
    cases l with
    | nil => cases hpf
    | cons c t =>
      simp only [Sums.posForm, Bool.and_eq_true, bne_iff_ne, ne_eq] at hpf
      have hall : ∀ d ∈ c :: t, EPure.dig d.toNat = true := fun d hd => List.all_eq_true.1 hpf.2 d hd
      have hat := h.at
      have hc := hall c (by simp)
      have hbd : 48 ≤ c.toNat ∧ c.toNat ≤ 57 := by simpa [EPure.dig] using hc
      have hsk := skp_all h hall hf
      refine ⟨by rw [hat]; unfold isb; simp; omega, ?_, by simp⟩
      unfold scan
      rw [if_neg (by have := h.lt; omega), hat, if_neg (by omega), if_neg hpf.1, if_pos hc, hsk, cut_st h, if_pos (by rw [Nums.bs_mk]; exact e2), Nums.bs_mk, e1]
  · have hz : Lib.itoa 0 = [48] := by decide +kernel
    rw [hz] at h ⊢
    have hat := h.at
    refine ⟨by rw [hat]; decide, ?_, by simp⟩
    unfold scan
    rw [if_neg (by have := h.lt; omega), hat, if_neg (by decide), if_pos (by decide)]
    rfl
end Go.Proofs.YtnoohlmlpijhaaaDoor.EBs
namespace Go.Proofs.YtnoohlmlpijhaaaDoor.EBit
open Go
theorem i64_mask (n : Int) (j : Nat) (hj : j ≤ 20) : bits .and .i64 n ((2 ^ j - 1 : Nat) : Int) = n % ((2 ^ j : Nat) : Int) := by
  have hp : (2 : Nat) ^ j ≤ 1048576 := Nat.pow_le_pow_right (by decide) hj
  have hp0 : 1 ≤ 2 ^ j := Nat.one_le_two_pow
  have h1 : (BitVec.ofInt 64 ((2 ^ j - 1 : Nat) : Int)).toNat = 2 ^ j - 1 := by
    rw [BitVec.toNat_ofInt]
    omega
  have key : (BitVec.ofInt 64 n &&& BitVec.ofInt 64 ((2 ^ j - 1 : Nat) : Int)).toNat = (n % ((2 ^ 64 : Nat) : Int)).toNat % 2 ^ j := by
    rw [BitVec.toNat_and, BitVec.toNat_ofInt, h1, Nat.and_two_pow_sub_one_eq_mod]
  show IntKind.i64.wrap ((BitVec.ofInt 64 n &&& BitVec.ofInt 64 ((2 ^ j - 1 : Nat) : Int)).toNat : Nat) = n % ((2 ^ j : Nat) : Int)
  rw [key, IntKind.wrap_i64]
  have hd : ((2 ^ 64 : Nat) : Int) = ((2 ^ j : Nat) : Int) * ((2 ^ (64 - j) : Nat) : Int) := by
    rw [← Int.natCast_mul, ← Nat.pow_add, show j + (64 - j) = 64 by omega]
  have hm : (((n % ((2 ^ 64 : Nat) : Int)).toNat % 2 ^ j : Nat) : Int) = n % ((2 ^ j : Nat) : Int) := by
    rw [Int.natCast_emod, Int.toNat_of_nonneg (Int.emod_nonneg _ (by decide)), hd]
    exact Int.emod_emod_of_dvd _ ⟨_, rfl⟩
  rw [hm]
  have hb0 := Int.emod_nonneg n (b := ((2 ^ j : Nat) : Int)) (by omega)
  have hb1 := Int.emod_lt_of_pos n (b := ((2 ^ j : Nat) : Int)) (by omega)
  omega
theorem and3 (n : Int) : bits .and .i64 n 3 = n % 4 := i64_mask n 2 (by decide)
theorem and63 (n : Int) : bits .and .i64 n 63 = n % 64 := i64_mask n 6 (by decide)
theorem and1023 (n : Int) : bits .and .i64 n 1023 = n % 1024 := i64_mask n 10 (by decide)
end Go.Proofs.YtnoohlmlpijhaaaDoor.EBit

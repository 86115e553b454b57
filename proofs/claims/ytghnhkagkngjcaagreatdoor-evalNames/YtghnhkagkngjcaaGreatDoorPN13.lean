import Derived.Laws.BytesArg
import Derived.Lib.AppendStr
import Derived.Lib.RuneBytes
import Derived.Lib.UnsafeStr
import Derived.LoopN
import Derived.LoopTactic
import Derived.Test.YtghnhkagkngjcaaGreatDoorPN04
import Derived.Test.YtghnhkagkngjcaaGreatDoorPN10
import Derived.Test.YtghnhkagkngjcaaGreatDoorPN12
set_option linter.unusedVariables false
set_option maxRecDepth 20000
set_option maxHeartbeats 3200000
namespace Go.Proofs.YtghnhkagkngjcaaGreatDoor.ECh
open Go.RowKit Base UBase EPure ERd ESk ETk EChr
theorem tab_keep {w w' : World} {g h : Nat} (t : Lib.Utf8Tabs g h w) (hg : w'.heap[g]? = w.heap[g]?) (hh : w'.heap[h]? = w.heap[h]?) : Lib.Utf8Tabs g h w' :=
 ⟨fun c hc => (World.cell?_of_block (w := w) hg).trans (t.1 c hc), fun i hi => ⟨(World.cell?_of_block (w := w) hh).trans (t.2 i hi).1, (World.cell?_of_block (w := w) hh).trans (t.2 i hi).2⟩⟩
structure Es (w : World) (R : Nat) (s : ByteArray) (a r : Nat) (t : Tk) : Prop where
 er : Er w R s a r t
 tab : Tabs w
 gR : 2 < R ∧ 3 < R
theorem Es.step {w w' : World} {R : Nat} {s : ByteArray} {a r a' r' : Nat} {t t' : Tk} (h : Es w R s a r t) (k : Kr R w w') (e : Er w' R s a' r' t') : Es w' R s a' r' t' := by
 have h1 := h.gR
 have h2 := h.er.lt
 exact ⟨e, tab_keep h.tab (k.other _ (by omega) (by omega)) (k.other _ (by omega) (by omega)), h.gR⟩
theorem Es.drewN {w : World} {R : Nat} {s : ByteArray} {a r : Nat} {t : Tk} (h : Es w R s a r t) (n : Nat) : Es (w.drewN n) R s a r t := h.step ((Kr.refl R w).drewN n) (h.er.drewN n)
theorem Es.below {w w' : World} {R : Nat} {s : ByteArray} {a r : Nat} {t : Tk} (h : Es w R s a r t) (b : Below w.heap.size w w') : Es w' R s a r t :=
 h.step (Kr.of_below b (Nat.le_of_lt h.er.lt)) (h.er.keep (b.block R h.er.lt))
def ChR (w w' : World) (R : Nat) (s : ByteArray) (r : Nat) (t : Tk) (e : Ending) : Except F (List UInt8 × Nat) → Prop
 | .ok (l, j) => Kr R w w' ∧ (∃ x : Nat, x ≤ 1114111 ∧ e = .returned (.int .i32 (x : Nat)) ∧ Lib.encodeRune (x : Int) = l) ∧ Er w' R s j r t
 | .error f => Kr R w w' ∧ e = .panicked (pk f)
theorem esc_cases {c x : Nat} (h : esc c = some x) : (c = 39 ∧ x = 39) ∨ (c = 92 ∧ x = 92) ∨ (c = 125 ∧ x = 125) ∨ (c = 110 ∧ x = 10) := by
 unfold esc at h
 split at h
 ·cases h; left; exact ⟨‹_›, rfl⟩
 ·split at h
  ·cases h; right; left; exact ⟨‹_›, rfl⟩
  ·split at h
   ·cases h; right; right; left; exact ⟨‹_›, rfl⟩
   ·split at h
    ·cases h; right; right; right; exact ⟨‹_›, rfl⟩
    ·cases h
theorem escaped_c {w : World} {R : Nat} {s : ByteArray} {a r : Nat} {t : Tk} (h : Er w R s a r t) {X : Except F (List UInt8 × Nat)} (hX : X = if s.size ≤ a then .error (1000, a) else match esc (at' s a) with
   | none => .error (1000, a)
   | some c => .ok ([UInt8.ofNat c], a + 1)) :
  Calls Tryz.prog 154 #[ptr R] w fun e w' => ((∃ u : Int, e = .returned (.int .i32 u)) ∨ (∃ u, e = .panicked u)) ∧ ChR w w' R s r t e X := by
 have hla := h.la
 by_cases hs : s.size ≤ a
 ·rw [if_pos hs] at hX
  subst hX
  have ha : a = s.size := by omega
  subst ha
  refine (ENm.escaped_end h).mono ?_
  rintro e w' ⟨rfl, k⟩
  exact ⟨.inr ⟨_, rfl⟩, k, rfl⟩
 ·rw [if_neg hs] at hX
  cases he : esc (at' s a) with
  | none =>
   rw [he] at hX
   subst hX
   refine (EEsc.esc_bad h (by omega) he).mono ?_
   rintro e w' ⟨rfl, k⟩
   exact ⟨.inr ⟨_, rfl⟩, k, rfl⟩
  | some c =>
   rw [he] at hX
   subst hX
   rcases esc_cases he with ⟨h1, rfl⟩ | ⟨h1, rfl⟩ | ⟨h1, rfl⟩ | ⟨h1, rfl⟩
   ·refine (EEsc.esc_39 h h1).mono ?_
    rintro e w' ⟨rfl, k1, k2⟩
    exact ⟨.inl ⟨_, rfl⟩, k2, ⟨39, by omega, rfl, RBt.enc_small (by omega)⟩, k1⟩
   ·refine (EEsc.esc_92 h h1).mono ?_
    rintro e w' ⟨rfl, k1, k2⟩
    exact ⟨.inl ⟨_, rfl⟩, k2, ⟨92, by omega, rfl, RBt.enc_small (by omega)⟩, k1⟩
   ·refine (EEsc.esc_125 h h1).mono ?_
    rintro e w' ⟨rfl, k1, k2⟩
    exact ⟨.inl ⟨_, rfl⟩, k2, ⟨125, by omega, rfl, RBt.enc_small (by omega)⟩, k1⟩
   ·refine (EEsc.esc_110 h h1).mono ?_
    rintro e w' ⟨rfl, k1, k2⟩
    exact ⟨.inl ⟨_, rfl⟩, k2, ⟨10, by omega, rfl, RBt.enc_small (by omega)⟩, k1⟩
theorem char_c {w : World} {R : Nat} {s : ByteArray} {a r : Nat} {t : Tk} (h : Es w R s a r t) (hal : a < s.size) :
  Calls Tryz.prog 128 #[ptr R] w fun e w' => ChR w w' R s r t e (chr s a) := by
 have ht : Tabs w.drew := tab_keep h.tab rfl rfl
 have hd := Dec.dec_extract s a hal
 have hlen := len_in hal
 unfold chr
 rw [if_neg (by omega)]
 by_cases h32 : at' s a < 32
 ·rw [if_pos h32]
  have e := Dec.dec_small (s := s) (i := a) (by omega)
  rw [hd.symm] at e
  refine (char_bad (X := at' s a) (L := 1) h.er hal ht (by rw [e]) (by rw [e]) (.inl (by simp; omega)) (by omega)).mono ?_
  rintro e w' ⟨rfl, k⟩
  exact ⟨k, rfl⟩
 ·rw [if_neg h32]
  by_cases h92 : at' s a = 92
  ·rw [if_pos h92]
   have e := Dec.dec_small (s := s) (i := a) (by omega)
   rw [hd.symm, h92] at e
   refine (char_esc (X := 92) (L := 1) (Q := fun e w' => ChR w w' R s r t e (if s.size ≤ a + 1 then .error (1000, a + 1) else match esc (at' s (a + 1)) with
    | none => .error (1000, a + 1)
    | some c => .ok ([UInt8.ofNat c], a + 2))) h.er hal ht (by rw [e]) (by rw [e]) (by simp) (.inl (by simp)) (by omega) (by omega) (by simp) fun W hK hE => ?_)
   refine (escaped_c hE rfl).mono ?_
   rintro e w' ⟨h1, h2⟩
   refine ⟨h1, ?_⟩
   revert h2
   generalize (if s.size ≤ a + 1 then (.error (1000, a + 1) : Except F (List UInt8 × Nat)) else match esc (at' s (a + 1)) with
    | none => .error (1000, a + 1)
    | some c => .ok ([UInt8.ofNat c], a + 1 + 1)) = X
   intro h2
   cases X with
   | error f => exact ⟨hK.trans h2.1, h2.2⟩
   | ok p => exact ⟨hK.trans h2.1, h2.2⟩
  ·rw [if_neg h92]
   by_cases hl0 : len s a = 0
   ·rw [if_pos hl0]
    have e := Dec.dec_bad hl0
    rw [hd.symm] at e
    refine (char_bad (X := 65533) (L := 1) h.er hal ht (by rw [e]) (by rw [e]) (.inr ⟨by simp, by simp, by simp⟩) (by omega)).mono ?_
    rintro e w' ⟨rfl, k⟩
    exact ⟨k, rfl⟩
   ·rw [if_neg hl0]
    by_cases h128 : at' s a < 128
    ·have e := Dec.dec_small (s := s) (i := a) h128
     rw [hd.symm] at e
     have hl1 : len s a = 1 := by unfold len; rw [if_pos h128]
     refine (char_raw (X := at' s a) (L := 1) h.er hal ht (by rw [e]) (by rw [e]) (by simp; omega) (.inl (by simp; omega)) (by omega) (by omega) (by simp; omega)).mono ?_
     rintro e w' ⟨rfl, k1, k2⟩
     rw [hl1]
     refine ⟨k2, ⟨at' s a, by omega, rfl, ?_⟩, k1⟩
     rw [RBt.enc_small h128]
     obtain ⟨x, hx, hdr⟩ := RBt.drop_cons hal
     rw [hdr, ← hx]
     simp
    ·obtain ⟨d1, d2, d3⟩ := Dec.dec_good hl0 (by omega)
     have hle := Dec.dec_le s a
     have henc := RBt.enc_good hal hl0 (by omega)
     obtain ⟨X, hX⟩ : ∃ X, (Utf8.decode s a).1 = X := ⟨_, rfl⟩
     rw [hX] at d3 hle henc
     refine (char_raw (X := X) (L := len s a) h.er hal ht (by rw [hd, hX]) (by rw [hd, d1]) (by simp; omega) ?_ hle hlen (by simp; omega)).mono ?_
     ·by_cases h6 : X = 65533
      ·exact .inr ⟨by simp [h6], by simp; omega⟩
      ·exact .inl (by simp; omega)
     ·rintro e w' ⟨rfl, k1, k2⟩
      exact ⟨k2, ⟨X, hle, rfl, henc⟩, k1⟩
end Go.Proofs.YtghnhkagkngjcaaGreatDoor.ECh
namespace Go.Proofs.YtghnhkagkngjcaaGreatDoor.EDn
open UBase EPure
theorem sk_le (p : Nat → Bool) (s : ByteArray) : ∀ f i, i ≤ sk p s f i ∧ (i ≤ s.size → sk p s f i ≤ s.size)
 | 0, i => ⟨Nat.le_refl _, id⟩
 | f + 1, i => by
  rw [sk]
  by_cases h : i < s.size ∧ p (at' s i) = true
  ·rw [if_pos h]
   have := sk_le p s f (i + 1)
   exact ⟨by omega, fun _ => this.2 (by omega)⟩
  ·rw [if_neg h]
   exact ⟨Nat.le_refl _, id⟩
theorem skp_ge (p : Nat → Bool) (s : ByteArray) (i : Nat) : i ≤ skp p s i := (sk_le p s _ i).1
theorem skp_in {p : Nat → Bool} {s : ByteArray} {i : Nat} (h : i ≤ s.size) : skp p s i ≤ s.size := (sk_le p s _ i).2 h
theorem skp_lt {p : Nat → Bool} {s : ByteArray} {i : Nat} (h : i < s.size) (hp : p (at' s i) = true) : i < skp p s i := by
 unfold skp
 obtain ⟨f, hf⟩ : ∃ f, s.size - i = f + 1 := ⟨s.size - i - 1, by omega⟩
 rw [hf, sk, if_pos ⟨h, hp⟩]
 have := (sk_le p s f (i + 1)).1
 omega
theorem chr_in {s : ByteArray} {i j : Nat} {l : List UInt8} (h : chr s i = .ok (l, j)) : i < j ∧ j ≤ s.size ∧ l.length ≤ 4 := by
 unfold chr at h
 split at h
 ·cases h
 ·split at h
  ·cases h
  ·split at h
   ·split at h
    ·cases h
    ·split at h
     ·cases h
     ·cases h; exact ⟨by omega, by omega, by simp⟩
   ·split at h
    ·cases h
    ·next h1 _ _ h2 =>
     have hl := len_in (s := s) (i := i) (by omega)
     have h4 : len s i ≤ 4 := by unfold len; (repeat' split); all_goals omega
     cases h
     refine ⟨by omega, by omega, ?_⟩
     have := List.length_take_le (len s i) (s.data.toList.drop i)
     omega
theorem txl_in {s : ByteArray} : ∀ {f i j : Nat} {acc l : List UInt8}, txl s f i acc = .ok (l, j) → i < j ∧ j ≤ s.size
 | 0, i, j, acc, l, h => by rw [txl] at h; cases h
 | f + 1, i, j, acc, l, h => by
  rw [txl] at h
  split at h
  ·cases h
  ·split at h
   ·cases h; exact ⟨by omega, by omega⟩
   ·split at h
    ·cases h
    ·next e =>
     have h1 := chr_in e
     have h2 := txl_in h
     exact ⟨by omega, h2.2⟩
theorem sgn_in {s : ByteArray} {i j : Nat} {x : ByteArray} : ∀ {L : List (List UInt8)}, (∀ y ∈ L, 0 < y.length ∧ y.length ≤ 2) → sgn s i L = .ok (x, j) → i < j ∧ j ≤ s.size ∧ 0 < x.size ∧ x.size ≤ 2 ∧ x.data.toList ∈ L ∧ i + x.size = j
 | [], _, h => by rw [sgn] at h; cases h
 | y :: L, hL, h => by
  rw [sgn] at h
  split at h
  ·next hp =>
   unfold pre at hp
   simp only [Bool.and_eq_true, decide_eq_true_eq] at hp
   have h1 := hL y (by simp)
   cases h
   have e : (⟨y.toArray⟩ : ByteArray).size = y.length := by show y.toArray.size = _; simp
   rw [e]
   exact ⟨by omega, hp.1, h1.1, h1.2, by simp, rfl⟩
  ·have := sgn_in (fun y hy => hL y (by simp [hy])) h
   exact ⟨this.1, this.2.1, this.2.2.1, this.2.2.2.1, by simp [this.2.2.2.2.1], this.2.2.2.2.2⟩
theorem signs_len : ∀ y ∈ signs, 0 < y.length ∧ y.length ≤ 2 := by decide
structure TkOk (s : ByteArray) (t : Tk) : Prop where
 hk : t.k ≤ 4
 hn : -9223372036854775808 ≤ t.n ∧ t.n ≤ 9223372036854775807
 ht : t.t.size ≤ s.size
 ha : t.a ≤ s.size
 sg : t.k = 4 → t.t.data.toList ∈ signs
 sh : t.t.size ≤ 4096
 nm : t.k = 3 → 0 < t.t.size
theorem cut_size (s : ByteArray) (i j : Nat) (h : j ≤ s.size) : (cut s i j).size = j - i := by unfold cut; rw [ByteArray.size_extract]; omega
theorem txl_len {s : ByteArray} : ∀ {f i j : Nat} {acc l : List UInt8}, txl s f i acc = .ok (l, j) → l.length + i + 1 ≤ acc.length + j
 | 0, i, j, acc, l, h => by rw [txl] at h; cases h
 | f + 1, i, j, acc, l, h => by
  rw [txl] at h
  split at h
  ·cases h
  ·split at h
   ·cases h; omega
   ·split at h
    ·cases h
    ·next x j' e =>
     have h2 := txl_len h
     rw [List.length_append] at h2
     have h3 : x.length + i ≤ j' := by
      unfold chr at e
      split at e
      ·cases e
      ·split at e
       ·cases e
       ·split at e
        ·split at e
         ·cases e
         ·split at e
          ·cases e
          ·cases e; simp; omega
        ·split at e
         ·cases e
         ·cases e
          have := List.length_take_le (len s i) (s.data.toList.drop i)
          omega
     omega
theorem scan_in {s : ByteArray} {i j : Nat} {t : Tk} (hi : i ≤ s.size) (h : scan s i = .ok (t, j)) : t.a = i ∧ TkOk s t ∧ j ≤ s.size ∧ (t.k = 0 → i = s.size ∧ j = s.size) ∧ (t.k ≠ 0 → i < j) := by
 have e0 : (⟨#[]⟩ : ByteArray).size = 0 := rfl
 unfold scan at h
 split at h
 ·cases h
  exact ⟨rfl, ⟨by simp, by simp, by simp [e0], hi, (fun h => by cases h), by simp [e0], fun h => by simp at h⟩, hi, fun _ => ⟨by omega, by omega⟩, fun h => absurd rfl h⟩
 ·split at h
  ·split at h
   ·cases h
   ·next e =>
    split at h
    ·cases h
    ·have h1 := txl_in e
     have h2 := txl_len e
     cases h
     rename_i l _
     have e1 : (⟨l.toArray⟩ : ByteArray).size = l.length := by show l.toArray.size = _; simp
     simp at h2
     exact ⟨rfl, ⟨by simp, by simp, by rw [e1]; omega, hi, (fun h => by simp at h), by rw [e1]; omega, fun h => by simp at h⟩, h1.2, (fun h => by simp at h), fun _ => by omega⟩
  ·split at h
   ·cases h
    exact ⟨rfl, ⟨by simp, by simp, by simp [e0], hi, (fun h => by simp at h), by simp [e0], fun h => by simp at h⟩, by omega, (fun h => by simp at h), fun _ => by omega⟩
   ·split at h
    ·next hd =>
     split at h
     ·cases h
      have := skp_lt (p := EPure.dig) (s := s) (i := i) (by omega) hd
      exact ⟨rfl, ⟨by simp, Nums.pnum_range _, by simp [e0], hi, (fun h => by simp at h), by simp [e0], fun h => by simp at h⟩, skp_in hi, (fun h => by simp at h), fun _ => this⟩
     ·cases h
    ·split at h
     ·next hl =>
      split at h
      ·cases h
       have hw : wrd (at' s i) = true := by unfold wrd; rw [hl]; rfl
       have := skp_lt (p := wrd) (s := s) (i := i) (by omega) hw
       have h3 := skp_in (p := wrd) hi
       have h4 := cut_size s i (skp wrd s i) h3
       exact ⟨rfl, ⟨by simp, by simp, by simp only [h4]; omega, hi, (fun h => by simp at h), by simp only [h4]; omega, fun _ => by simp only [h4]; omega⟩, h3, (fun h => by simp at h), fun _ => this⟩
      ·cases h
     ·split at h
      ·cases h
      ·next e =>
       cases h
       have := sgn_in signs_len e
       exact ⟨rfl, ⟨by simp, by simp, by simp only; omega, hi, fun _ => this.2.2.2.2.1, by simp only; omega, fun h => by simp at h⟩, this.2.1, (fun h => by simp at h), fun _ => this.1⟩
structure SrOk (s : ByteArray) (g : Sr) : Prop where
 a : g.a ≤ s.size
 r : g.r ≤ 512
 t : TkOk s g.tk
def mu (s : ByteArray) (g : Sr) : Nat := 2 * (s.size - g.a) + (if g.tk.k = 0 then 0 else 1)
theorem adv_in {s : ByteArray} {a r : Nat} {g : Sr} (ha : a ≤ s.size) (hr : r ≤ 512) (h : adv s a r = .ok g) : SrOk s g ∧ (g.tk.k = 0 → g.a = s.size) ∧ (g.tk.k ≠ 0 → a < g.a) ∧ a ≤ g.a := by
 unfold adv at h
 split at h
 ·cases h
 ·next t j e =>
  have h0 := skp_ge isb s a
  obtain ⟨h1, h2, h3, h4, h5⟩ := scan_in (skp_in ha) e
  split at h
  ·next hk =>
   cases h
   exact ⟨⟨h3, hr, h2⟩, fun _ => (h4 hk).2, fun h => absurd hk h, by have := h4 hk; simp only; omega⟩
  ·next hk =>
   have := h5 hk
   split at h
   ·cases h
   ·cases h
    exact ⟨⟨h3, by simp only; omega, h2⟩, fun h => absurd h hk, fun _ => by simp only; omega, by simp only; omega⟩
theorem adv_mu {s : ByteArray} {g g' : Sr} (hg : SrOk s g) (hk : g.tk.k ≠ 0) (h : adv s g.a g.r = .ok g') : SrOk s g' ∧ mu s g' < mu s g := by
 obtain ⟨h1, h2, h3, h4⟩ := adv_in hg.a hg.r h
 have ha := hg.a
 have ha' := h1.a
 refine ⟨h1, ?_⟩
 unfold mu
 rw [if_neg hk]
 by_cases h0 : g'.tk.k = 0
 ·rw [if_pos h0]; omega
 ·rw [if_neg h0]; have := h3 h0; omega
theorem is_k {t : Tk} {x : List UInt8} (h : is t x = true) : t.k ≠ 0 := by
 unfold is at h
 simp only [Bool.and_eq_true, beq_iff_eq] at h
 omega
theorem tak_mu {s : ByteArray} {x : List UInt8} {g g' : Sr} (hg : SrOk s g) (h : tak s x g = .ok g') : SrOk s g' ∧ mu s g' < mu s g := by
 unfold tak at h
 split at h
 ·next hi => exact adv_mu hg (is_k hi) h
 ·cases h
def Dn (s : ByteArray) (q : P) : Prop := ∀ g x g', SrOk s g → q g = .ok (x, g') → SrOk s g' ∧ mu s g' < mu s g
theorem ded_dn (s : ByteArray) : Dn s ded := by
 intro g x g' hg h
 unfold ded at h
 split at h <;> cases h
theorem opOf_k {t : Tk} {o : Int} : ∀ {l : List (List UInt8 × Int)}, opOf t l = some o → t.k ≠ 0
 | [], h => by rw [opOf] at h; cases h
 | (x, y) :: l, h => by
  rw [opOf] at h
  split at h
  ·next hi => exact is_k hi
  ·exact opOf_k h
theorem more_dn {s : ByteArray} {k : Nat} {q : P} (hq : Dn s q) : ∀ f l g x g', SrOk s g → more s k q f l g = .ok (x, g') → SrOk s g' ∧ mu s g' ≤ mu s g
 | 0, l, g, x, g', hg, h => by rw [more] at h; cases h
 | f + 1, l, g, x, g', hg, h => by
  rw [more] at h
  split at h
  ·cases h; exact ⟨hg, Nat.le_refl _⟩
  ·next ho =>
   split at h
   ·cases h
   ·next e1 =>
    obtain ⟨h1, m1⟩ := adv_mu hg (opOf_k ho) e1
    split at h
    ·cases h
    ·next e2 =>
     obtain ⟨h2, m2⟩ := hq _ _ _ h1 e2
     obtain ⟨h3, m3⟩ := more_dn hq f _ _ _ _ h2 h
     exact ⟨h3, by omega⟩
theorem lev_dn {s : ByteArray} {q : P} (hq : Dn s q) : ∀ j, Dn s (lev s q j)
 | 0 => hq
 | j + 1 => by
  intro g x g' hg h
  rw [lev] at h
  dsimp only at h
  split at h
  ·cases h
  ·next e =>
   obtain ⟨h1, m1⟩ := lev_dn hq j _ _ _ hg e
   obtain ⟨h2, m2⟩ := more_dn (lev_dn hq j) _ _ _ _ _ h1 h
   exact ⟨h2, by omega⟩
theorem chc_dn {s : ByteArray} {S C : P} (hS : Dn s S) (hC : Dn s C) : Dn s (chc s S C) := by
 intro g x g' hg h
 unfold chc at h
 split at h
 ·cases h
 ·next e =>
  obtain ⟨h1, m1⟩ := lev_dn hS 11 _ _ _ hg e
  split at h
  ·next hi =>
   split at h
   ·cases h
   ·next e2 =>
    obtain ⟨h2, m2⟩ := adv_mu h1 (is_k hi) e2
    split at h
    ·cases h
    ·next e3 =>
     obtain ⟨h3, m3⟩ := hC _ _ _ h2 e3
     split at h
     ·cases h
     ·next e4 =>
      obtain ⟨h4, m4⟩ := tak_mu h3 e4
      split at h
      ·cases h
      ·next e5 =>
       obtain ⟨h5, m5⟩ := hC _ _ _ h4 e5
       cases h
       exact ⟨h5, by omega⟩
  ·cases h
   exact ⟨h1, m1⟩
theorem btw_dn {s : ByteArray} {C : P} (hC : Dn s C) (o c : List UInt8) : Dn s (btw s C o c) := by
 intro g x g' hg h
 unfold btw at h
 split at h
 ·cases h
 ·next e1 =>
  obtain ⟨h1, m1⟩ := tak_mu hg e1
  split at h
  ·cases h
  ·next e2 =>
   obtain ⟨h2, m2⟩ := hC _ _ _ h1 e2
   split at h
   ·cases h
   ·next e3 =>
    obtain ⟨h3, m3⟩ := tak_mu h2 e3
    cases h
    exact ⟨h3, by omega⟩
theorem prt_dn {s : ByteArray} {C : P} (hC : Dn s C) : ∀ f l g x g', SrOk s g → prt s C f l g = .ok (x, g') → SrOk s g' ∧ mu s g' ≤ mu s g
 | 0, l, g, x, g', hg, h => by rw [prt] at h; cases h
 | f + 1, l, g, x, g', hg, h => by
  rw [prt] at h
  split at h
  ·next hi =>
   split at h
   ·cases h
   ·next e1 =>
    obtain ⟨h1, m1⟩ := adv_mu hg (is_k hi) e1
    split at h
    ·next h3 =>
     split at h
     ·cases h
     ·next e2 =>
      obtain ⟨h2, m2⟩ := adv_mu h1 (by omega) e2
      obtain ⟨h3, m3⟩ := prt_dn hC f _ _ _ _ h2 h
      exact ⟨h3, by omega⟩
    ·cases h
  ·split at h
   ·split at h
    ·cases h
    ·next e1 =>
     obtain ⟨h1, m1⟩ := btw_dn hC _ _ _ _ _ hg e1
     obtain ⟨h3, m3⟩ := prt_dn hC f _ _ _ _ h1 h
     exact ⟨h3, by omega⟩
   ·cases h
    exact ⟨hg, Nat.le_refl _⟩
theorem nmd_dn {s : ByteArray} {C : P} (hC : Dn s C) (t : ByteArray) : ∀ g x g', SrOk s g → nmd s C t g = .ok (x, g') → SrOk s g' ∧ mu s g' ≤ mu s g := by
 intro g x g' hg h
 unfold nmd at h
 split at h
 ·cases h; exact ⟨hg, Nat.le_refl _⟩
 ·split at h
  ·split at h
   ·split at h
    ·cases h
    ·next e =>
     obtain ⟨h1, m1⟩ := btw_dn hC _ _ _ _ _ hg e
     cases h
     exact ⟨h1, by omega⟩
   ·cases h; exact ⟨hg, Nat.le_refl _⟩
  ·cases h; exact ⟨hg, Nat.le_refl _⟩
theorem wor_dn {s : ByteArray} {C : P} (hC : Dn s C) : Dn s (wor s C) := by
 intro g x g' hg h
 unfold wor at h
 split at h
 ·split at h
  ·cases h
  ·next e =>
   obtain ⟨h1, m1⟩ := adv_mu hg (by omega) e
   cases h
   exact ⟨h1, m1⟩
 ·split at h
  ·split at h
   ·cases h
   ·next e =>
    obtain ⟨h1, m1⟩ := adv_mu hg (by omega) e
    cases h
    exact ⟨h1, m1⟩
  ·split at h
   ·split at h
    ·cases h
    ·next e =>
     obtain ⟨h1, m1⟩ := adv_mu hg (by omega) e
     obtain ⟨h2, m2⟩ := nmd_dn hC _ _ _ _ h1 h
     exact ⟨h2, by omega⟩
   ·exact btw_dn hC _ _ _ _ _ hg h
theorem par_dn {s : ByteArray} {C : P} (hC : Dn s C) : Dn s (par s C) := by
 intro g x g' hg h
 unfold par at h
 split at h
 ·cases h
 ·next e =>
  obtain ⟨h1, m1⟩ := wor_dn hC _ _ _ hg e
  obtain ⟨h2, m2⟩ := prt_dn hC _ _ _ _ _ h1 h
  exact ⟨h2, by omega⟩
theorem sgd_dn {s : ByteArray} {S C : P} (hS : Dn s S) (hC : Dn s C) : Dn s (sgd s S C) := by
 intro g x g' hg h
 unfold sgd at h
 split at h
 ·next hi =>
  split at h
  ·cases h
  ·next e =>
   obtain ⟨h1, m1⟩ := adv_mu hg (is_k hi) e
   split at h
   ·cases h
   ·next e2 =>
    obtain ⟨h2, m2⟩ := hS _ _ _ h1 e2
    cases h
    exact ⟨h2, by omega⟩
 ·split at h
  ·next hi =>
   split at h
   ·cases h
   ·next e =>
    obtain ⟨h1, m1⟩ := adv_mu hg (is_k hi) e
    split at h
    ·cases h
    ·next e2 =>
     obtain ⟨h2, m2⟩ := hS _ _ _ h1 e2
     cases h
     exact ⟨h2, by omega⟩
  ·exact par_dn hC _ _ _ hg h
theorem lv2_dn (s : ByteArray) : ∀ m, Dn s (lv2 s m).1 ∧ Dn s (lv2 s m).2
 | 0 => ⟨ded_dn s, chc_dn (ded_dn s) (ded_dn s)⟩
 | m + 1 => ⟨sgd_dn (lv2_dn s m).1 (lv2_dn s m).2, chc_dn (sgd_dn (lv2_dn s m).1 (lv2_dn s m).2) (lv2_dn s m).2⟩
end Go.Proofs.YtghnhkagkngjcaaGreatDoor.EDn
namespace Go.Proofs.YtghnhkagkngjcaaGreatDoor.ETx
open Go.ChangeShapes Go.WideShapes Go.ChangeAt Go.RowKit Base UBase EPure ERd ESk ETk EChr ECh
def Own (w : World) (B : Nat) (v : Value) (L : List UInt8) : Prop := w.ownsRow B 5 1 v L.length (Lib.byteCells L)
theorem Own.nil (w : World) (B : Nat) : Own w B (.slice none 0 0) [] := World.ownsRow_nil _ _ _ _
theorem own_rune {w' : World} {B : Nat} {v : Value} {L : List UInt8} {r : Int} (h : w'.ownsRow B 5 1 v (L.length + (Lib.runeCells r).length) (Lib.byteCells L ++ Lib.runeCells r)) : Own w' B v (L ++ Lib.encodeRune r) := by
 unfold Own
 rw [Lib.byteCells_append, List.length_append, Lib.byteCells_encodeRune, ← Lib.runeCells_length]
 exact h
theorem own_conv {w : World} {B : Nat} {v : Value} {L : List UInt8} (h : Own w B v L) : (convert 59 9 v).run Tryz.prog w = .ok (.string ⟨L.toArray⟩) w := by
 rcases h.2 with ⟨rfl, h0⟩ | ⟨g, cap, cur, rfl, hb, hh, hn, hm, _⟩
 ·have hL : L = [] := List.eq_nil_of_length_eq_zero h0
  subst hL
  exact run_convert_bytes_nil w 59 5 Tryz.underlying59 Tryz.underlying5 0 0 9 Tryz.underlying9
 ·refine run_convert_bytes_back (P := Tryz.prog) w 59 9 5 ⟨g, 0, none⟩ cap L Tryz.underlying59 Tryz.underlying5 Tryz.underlying9 fun j hj => ?_
  exact World.ownsRow.cells (g := g) h rfl j (.int .u8 (L[j].toNat : Int)) (by simp [Lib.byteCells, hj])
theorem Own.len {w : World} {B : Nat} {v : Value} {L : List UInt8} (h : Own w B v L) : ∃ a cap, v = .slice a L.length cap ∧ L.length ≤ cap ∧ cap ≤ maxLen := by
 rcases h.2 with ⟨rfl, h0⟩ | ⟨g, cap, cur, rfl, hb, hh, hn, hm, _⟩
 ·exact ⟨none, 0, by rw [h0], by omega, by unfold maxLen; omega⟩
 ·exact ⟨_, cap, rfl, hn, hm⟩
theorem own_keep {w w' : World} {B : Nat} {e : TypeId} {z n : Nat} {v : Value} {xs : List Value} (h : w.ownsRow B e z v n xs) (hk : ∀ g, B ≤ g → g < w.heap.size → v.ownBlock = some g → w'.heap[g]? = w.heap[g]?) : w'.ownsRow B e z v n xs := by
 refine ⟨h.1, ?_⟩
 rcases h.2 with h2 | ⟨g, cap, cur, hv, hg, hh, r⟩
 ·exact .inl h2
 ·exact .inr ⟨g, cap, cur, hv, hg, (hk g hg (Array.getElem?_eq_some_iff.1 hh).1 (by rw [hv]; rfl)).trans hh, r⟩
theorem own_kr {w w' : World} {R B : Nat} {e : TypeId} {z n : Nat} {v : Value} {xs : List Value} (h : w.ownsRow B e z v n xs) (hk : Kr R w w') (hR : R < B) : w'.ownsRow B e z v n xs :=
 own_keep h fun g hg hs _ => hk.other g (by omega) hs
theorem kr_grown {R B : Nat} {w a w' : World} {row : Option Nat} (h : Kr R w a) (hB : B = w.heap.size) (hR : R < B) (hg : a.grownBy w' row) (hr : ∀ k, row = some k → B ≤ k) : Kr R w w' := by
 have hs := h.below.size
 refine ⟨h.below.grown hg (by omega) (fun k hk => by have := hr k hk; omega), fun k hk hlt => ?_⟩
 rw [hg.block k (by omega) (fun e => by have := hr k e.symm; omega)]
 exact h.other k hk hlt
theorem er_grown {R B : Nat} {a w' : World} {row : Option Nat} {s : ByteArray} {i r : Nat} {t : Tk} (h : Er a R s i r t) (hR : R < B) (hg : a.grownBy w' row) (hr : ∀ k, row = some k → B ≤ k) : Er w' R s i r t :=
 h.keep (hg.block R h.lt (fun e => by have := hr R e.symm; omega))
theorem Kr.alloc {R : Nat} {w w' : World} (h : Kr R w w') (hR : R ≤ w'.heap.size) (o : Obj) : Kr R w (w'.alloc o) :=
 ⟨h.below.alloc hR o, fun k hk hs => (Below.heap_alloc _ _ _ (by have := h.below.size; omega)).trans (h.other k hk hs)⟩
def txd (i : Nat) : Except F (List UInt8 × Nat) → Except F (ByteArray × Nat)
 | .error e => .error e
 | .ok (L, j) => if 4096 < L.length then .error (1002, i) else .ok (⟨L.toArray⟩, j)
def txk (s : ByteArray) (f : Nat) (L : List UInt8) : Except F (List UInt8 × Nat) → Except F (List UInt8 × Nat)
 | .error e => .error e
 | .ok (x, j) => txl s f j (L ++ x)
theorem txl_step (s : ByteArray) (f q : Nat) (L : List UInt8) : txl s (f + 1) q L = if s.size ≤ q then .error (1000, q) else if at' s q = 39 then .ok (L, q + 1) else txk s f L (chr s q) := by
 rw [txl]
 rfl
theorem chr_len {s : ByteArray} {i j : Nat} {l : List UInt8} (e : chr s i = .ok (l, j)) : l.length + i ≤ j := by
 unfold chr at e
 split at e
 ·cases e
 ·split at e
  ·cases e
  ·split at e
   ·split at e
    ·cases e
    ·split at e
     ·cases e
     ·cases e; simp; omega
   ·split at e
    ·cases e
    ·cases e
     have := List.length_take_le (len s i) (s.data.toList.drop i)
     omega
theorem text_c {w : World} {R : Nat} {s : ByteArray} {i r : Nat} {t : Tk} (h : Es w R s i r t) (hi : i < s.size) :
  Calls Tryz.prog 99 #[ptr R] w fun e w' => ESg.SgR w w' R s r t e (txd i (txl s (s.size + 1) (i + 1) [])) := by
 have hRlt := h.er.lt
 have hsz := h.er.sz
 obtain ⟨k0, k1, -⟩ := h.er.cells
 have f1 := h.er.free 1
 obtain ⟨U, hU⟩ : ∃ U, txd i (txl s (s.size + 1) (i + 1) []) = U := ⟨_, rfl⟩
 rw [hU]
 have HU : Hid (U = txd i (txl s (s.size + 1) (i + 1) [])) := hU.symm
 have HW : Hid (Kr R w (w.setCell ⟨R, 1, none⟩ (.int .i64 ((i : Int) + 1)))) := (Kr.refl R w).set 1 _
 have hE := h.er.go (i + 1) (by omega)
 rw [show ((i + 1 : Nat) : Int) = (i : Int) + 1 from by omega] at hE
 have HE : Hid (Es (w.setCell ⟨R, 1, none⟩ (.int .i64 ((i : Int) + 1))) R s (i + 1) r t) := h.step HW.out hE
 have HB : Hid (Es w R s i r t) := h
 unfold ptr
 clear hU h hE
 go_enter Tryz.func99, Tryz.ntmps99
 go_wp2_with fail
 go_loopw [4] (fun out wr => ∃ (q f : Nat) (L : List UInt8), q ≤ s.size ∧ L.length ≤ q ∧ Es wr R s q r t ∧ Kr R w wr ∧ Own wr w.heap.size out L ∧ txl s f q L = txl s (s.size + 1) (i + 1) [] ∧ s.size < q + f) (fun out wr => s.size - plc R wr)
 case atStart => exact ⟨i + 1, s.size + 1, [], by omega, by simp, HE.out, HW.out, Own.nil _ _, rfl, by omega⟩
 case round =>
  clear HE HW k0 k1 f1
  obtain ⟨q, f, L, hq, hlen, hr, hk, hown, htx, hf⟩ := hrel
  have HTX : Hid (txl s f q L = txl s (s.size + 1) (i + 1) []) := htx
  have HP : Hid (plc R wr = q) := plc_of hr.er
  obtain ⟨f, rfl⟩ : ∃ f', f = f' + 1 := ⟨f - 1, by omega⟩
  have HS : Hid (txl s (f + 1) q L = if s.size ≤ q then .error (1000, q) else if at' s q = 39 then .ok (L, q + 1) else txk s f L (chr s q)) := txl_step s f q L
  clear htx
  by_cases hend : ¬ q < s.size
  ·have hqs : q = s.size := by omega
   have c58 := next_end (by rw [← hqs]; exact hr.er)
   have hU2 : U = .error (1000, s.size) := by
    rw [HU.out, ← HTX.out, HS.out, if_pos (by omega), hqs]
    rfl
   subst hU2
   unfold ptr at c58
   clear hr hown
   go_wp2_with fail
   refine c58.mono ?_
   rintro e w' ⟨rfl, kk, rfl⟩
   exact ⟨rfl, hk.drewN kk, rfl⟩
  have hlt : q < s.size := Decidable.of_not_not hend
  clear hend
  have c58 := next_c hr.er hlt
  have hb := at_lt s q
  unfold ptr at c58
  by_cases h34 : at' s q = 39
  ·have hUe : U = if 4096 < L.length then .error (1002, i) else .ok (⟨L.toArray⟩, q + 1) := by
    rw [HU.out, ← HTX.out, HS.out, if_neg (by omega), if_pos h34]
    rfl
   have HR : Hid (Es wr R s q r t) := hr
   have HOWN : Hid (Own wr w.heap.size u4 L) := hown
   rw [h34] at c58
   obtain ⟨a, cap, rfl, hc1, hc2⟩ := hown.len
   clear hr hown HS
   go_wp2_with fail
   refine c58.mono ?_
   rintro e w' ⟨rfl, kk, rfl⟩
   have hr2 := HR.out.drewN kk
   obtain ⟨k0, k1, -⟩ := hr2.er.cells
   have f1 := hr2.er.free 1
   have hE := hr2.er.go (q + 1) (by omega)
   rw [show ((q + 1 : Nat) : Int) = (q : Int) + 1 from by omega] at hE
   have hK := (hk.drewN kk).set 1 (.int .i64 ((q : Int) + 1))
   have HE : Hid (Er ((wr.drewN kk).setCell ⟨R, 1, none⟩ (.int .i64 ((q : Int) + 1))) R s (q + 1) r t) := hE
   have hcv := own_conv (own_kr (R := R) (w' := (wr.drewN kk).setCell ⟨R, 1, none⟩ (.int .i64 ((q : Int) + 1))) HOWN.out (((Kr.refl R wr).drewN kk).set 1 _) hRlt)
   clear hr2 hE c58
   by_cases hlong : 4096 < L.length
   ·have hU2 : U = .error (1002, i) := by rw [hUe, if_pos hlong]
    subst hU2
    have dl : decide ((4096 : Int) < (L.length : Int)) = true := by simp; omega
    clear hUe hcv
    go_wp2_with fail
    exact ⟨rfl, hK, rfl⟩
   ·have hU2 : U = .ok (⟨L.toArray⟩, q + 1) := by rw [hUe, if_neg hlong]
    subst hU2
    have dl : decide ((4096 : Int) < (L.length : Int)) = false := by simp; omega
    clear hUe
    go_wp2_with fail
    go_ret
    exact ⟨hK, rfl, HE.out⟩
  ·have hne : (((at' s q : Nat) : Int) != 39) = true := by simp; omega
   have C79 : Hid (∀ m, Calls Tryz.prog 128 #[.pointer (some ⟨R, 0, none⟩)] (wr.drewN m) fun e w' => ChR (wr.drewN m) w' R s r t e (chr s q)) := fun m => char_c (hr.drewN m) hlt
   have HOWN : Hid (∀ m, Own (wr.drewN m) w.heap.size u4 L) := fun m => own_keep hown fun _ _ _ _ => rfl
   obtain ⟨X, hX⟩ : ∃ X, chr s q = X := ⟨_, rfl⟩
   have HS2 : Hid (txl s (f + 1) q L = txk s f L X) := by
    show _ = _
    rw [HS.out, if_neg (by omega), if_neg h34, hX]
   have HX : Hid (chr s q = X) := hX
   have HRT : Hid (Es wr R s q r t) := hr
   clear hr hown hX h34 HS
   generalize at' s q = z at *
   go_wp2_with fail
   refine c58.mono ?_
   rintro e w' ⟨rfl, kk, rfl⟩
   have c79 := C79.out kk
   rw [HX.out] at c79
   clear c58
   cases X with
   | error x =>
    have hU2 : U = .error x := by rw [HU.out, ← HTX.out, HS2.out]; rfl
    subst hU2
    go_wp2_with fail
    refine c79.mono ?_
    rintro e w' ⟨k3, rfl⟩
    exact ⟨rfl, (hk.drewN kk).trans k3, rfl⟩
   | ok y =>
    obtain ⟨l, j⟩ := y
    have hin := EDn.chr_in HX.out
    go_wp2_with fail
    refine c79.mono ?_
    rintro e w3 ⟨k3, ⟨x, hx1, rfl, hx2⟩, h3⟩
    have hown3 := own_kr (HOWN.out kk) k3 hRlt
    have hs3 := k3.below.size
    have c78 := Tryz.utf8_AppendRune_plain w.heap.size u4 L.length (Lib.byteCells L) (x : Int) (by omega) (by omega) w3 hown3 (by omega) (by have := hk.below.size; have : (wr.drewN kk).heap.size = wr.heap.size := rfl; omega)
    have HH : Hid (Er w3 R s j r t) := h3
    have HK3 : Hid (Kr R (wr.drewN kk) w3) := k3
    have HO3 : Hid (w3.ownsRow w.heap.size 5 1 u4 L.length (Lib.byteCells L)) := hown3
    clear c79 h3 k3 hown3 hs3
    go_wp2_with fail
    refine c78.mono ?_
    rintro e w4 ⟨v4, rfl, ho4, o4, hg4⟩
    have hlt4 := World.ownsRow.lt HO3.out
    have hR3 := HH.out.lt
    have k4 : Kr R w w4 := kr_grown (Kr.alloc ((hk.drewN kk).trans HK3.out) (by omega) o4) rfl hRlt hg4 (fun k hk' => (hlt4 k hk').1)
    have h4 : Er w4 R s j r t := er_grown (HH.out.keep (((Below.refl _ w3).alloc (Nat.le_refl _) o4).block R hR3)) hRlt hg4 (fun k hk' => (hlt4 k hk').1)
    have HO4 : Hid (Own w4 w.heap.size v4 (L ++ Lib.encodeRune (x : Int))) := own_rune ho4
    have HES : Hid (Es w4 R s j r t) := HB.out.step k4 h4
    clear ho4 hg4 c78
    go_wp2_with fail
    go_roundw
    case rel => exact ⟨j, f, L ++ Lib.encodeRune (x : Int), hin.2.1, by rw [List.length_append, hx2]; have := chr_len HX.out; omega, HES.out, k4, HO4.out, by rw [hx2]; exact HS2.out.symm.trans HTX.out, by omega⟩
    case measure =>
     have e1 := HP.out
     have e2 := plc_of h4
     show s.size - plc R w4 < s.size - plc R wr
     rw [e1, e2]
     omega
end Go.Proofs.YtghnhkagkngjcaaGreatDoor.ETx
namespace Go.Proofs.YtghnhkagkngjcaaGreatDoor.ESc
open Go.RowKit Base UBase EPure ERd ESk ETk EChr ECh
def ScR (w w' : World) (R : Nat) (s : ByteArray) (r : Nat) (t : Tk) (e : Ending) : Except F (Tk × Nat) → Prop
 | .ok (x, j) => Kr R w w' ∧ e = .returned (.agg #[.int .i64 x.k, .string x.t, .int .i64 x.n, .int .i64 0]) ∧ Er w' R s j r t
 | .error f => Kr R w w' ∧ e = .panicked (pk f)
theorem Kr.off {R B : Nat} {w w' : World} (h : Kr R w w') (hB : w.heap.size ≤ B) (hR : R < B) (j : Nat) (u : Value) : Kr R w (w'.setCell ⟨B, j, none⟩ u) :=
 ⟨h.below.setCell (p := ⟨B, j, none⟩) (by show R ≤ B; omega) u, fun k hk hs => (Below.heap_setCell _ _ _ _ (by simp; omega)).trans (h.other k hk hs)⟩
theorem Er.off {R B : Nat} {w : World} {s : ByteArray} {a r : Nat} {t : Tk} (h : Er w R s a r t) (hR : R < B) (j : Nat) (u : Value) : Er (w.setCell ⟨B, j, none⟩ u) R s a r t := h.keep (Below.heap_setCell _ _ _ _ (by simp; omega))
theorem set_box4 {w : World} {B : Nat} {u0 u1 u2 u3 v0 v1 v2 v3 : Value} {t : TypeId} (h : w.heap[B]? = some (.cells #[u0, u1, u2, u3] t (0, 0))) :
  ((((w.setCell ⟨B, 0, none⟩ v0).setCell ⟨B, 1, none⟩ v1).setCell ⟨B, 2, none⟩ v2).setCell ⟨B, 3, none⟩ v3).heap[B]? = some (.cells #[v0, v1, v2, v3] t (0, 0)) := by
 simp [World.setCell, Array.getElem?_modify, h]
def tkT (a : Nat) : Except F (ByteArray × Nat) → Except F (Tk × Nat)
 | .error e => .error e
 | .ok (x, j) => .ok (⟨2, x, 0, a⟩, j)
def tkN (a : Nat) : Except F (Int × Nat) → Except F (Tk × Nat)
 | .error e => .error e
 | .ok (x, j) => .ok (⟨1, ⟨#[]⟩, x, a⟩, j)
def tkW (a : Nat) : Except F (ByteArray × Nat) → Except F (Tk × Nat)
 | .error e => .error e
 | .ok (x, j) => .ok (⟨3, x, 0, a⟩, j)
def tkS (a : Nat) : Except F (ByteArray × Nat) → Except F (Tk × Nat)
 | .error e => .error e
 | .ok (x, j) => .ok (⟨4, x, 0, a⟩, j)
def NR (w' : World) (R : Nat) (s : ByteArray) (r : Nat) (t : Tk) (e : Ending) : Except F (Int × Nat) → Prop
 | .error f => e = .panicked (pk f)
 | .ok (n, j) => e = .returned (.int .i64 n) ∧ Er w' R s j r t
def WR (w' : World) (R : Nat) (s : ByteArray) (r : Nat) (t : Tk) (e : Ending) : Except F (ByteArray × Nat) → Prop
 | .error f => e = .panicked (pk f)
 | .ok (n, j) => e = .returned (.string n) ∧ Er w' R s j r t
theorem below_drewN (w : World) (n : Nat) : Below w.heap.size w (w.drewN n) := ⟨rfl, rfl, rfl, by simp, fun _ _ => by simp⟩
theorem next_b {w : World} {R : Nat} {s : ByteArray} {a r : Nat} {t : Tk} (h : Er w R s a r t) (ha : a < s.size) :
  Calls Tryz.prog 98 #[ptr R] w fun e w' => e = .returned (.int .u8 (at' s a : Nat)) ∧ Below w.heap.size w w' := by
 refine (next_c h ha).mono ?_
 rintro e w' ⟨rfl, k, rfl⟩
 exact ⟨rfl, below_drewN w k⟩
structure Sc (w W : World) (R : Nat) (s : ByteArray) (a r : Nat) (t : Tk) : Prop where
 es : Es W R s a r t
 kr : Kr R w W
 box : W.heap[w.heap.size]? = some (.cells #[.int .i64 0, .string ⟨#[]⟩, .int .i64 0, .int .i64 0] 83 (0, 0))
theorem Sc.start {w : World} {R : Nat} {s : ByteArray} {a r : Nat} {t : Tk} (h : Es w R s a r t) : Sc w (w.alloc (.cells #[.int .i64 0, .string ⟨#[]⟩, .int .i64 0, .int .i64 0] 83)) R s a r t := by
 have b := (Below.refl w.heap.size w).alloc (Nat.le_refl _) (.cells #[.int .i64 0, .string ⟨#[]⟩, .int .i64 0, .int .i64 0] 83)
 exact ⟨h.below b, Kr.of_below b (Nat.le_of_lt h.er.lt), heap_alloc_new w _⟩
theorem Sc.step {w W W' : World} {R : Nat} {s : ByteArray} {a r a' r' : Nat} {t t' : Tk} (h : Sc w W R s a r t) (hR : R < w.heap.size) (k : Kr R W W') (e : Er W' R s a' r' t') : Sc w W' R s a' r' t' := by
 have hs := h.kr.below.size
 have hl := (Array.getElem?_eq_some_iff.1 h.box).1
 exact ⟨h.es.step k e, h.kr.trans k, (k.other _ (by omega) hl).trans h.box⟩
theorem Sc.below {w W W' : World} {R : Nat} {s : ByteArray} {a r : Nat} {t : Tk} (h : Sc w W R s a r t) (hR : R < w.heap.size) (b : Below W.heap.size W W') : Sc w W' R s a r t :=
 h.step hR (Kr.of_below b (Nat.le_of_lt h.es.er.lt)) (h.es.er.keep (b.block R h.es.er.lt))
theorem Sc.fin {w W : World} {R : Nat} {s : ByteArray} {a r : Nat} {t : Tk} (h : Sc w W R s a r t) (hR : R < w.heap.size) (v0 v1 v2 v3 : Value) :
  ((((W.setCell ⟨w.heap.size, 0, none⟩ v0).setCell ⟨w.heap.size, 1, none⟩ v1).setCell ⟨w.heap.size, 2, none⟩ v2).setCell ⟨w.heap.size, 3, none⟩ v3).heap[w.heap.size]? = some (.cells #[v0, v1, v2, v3] 83 (0, 0)) ∧
  Er ((((W.setCell ⟨w.heap.size, 0, none⟩ v0).setCell ⟨w.heap.size, 1, none⟩ v1).setCell ⟨w.heap.size, 2, none⟩ v2).setCell ⟨w.heap.size, 3, none⟩ v3) R s a r t ∧
  Kr R w ((((W.setCell ⟨w.heap.size, 0, none⟩ v0).setCell ⟨w.heap.size, 1, none⟩ v1).setCell ⟨w.heap.size, 2, none⟩ v2).setCell ⟨w.heap.size, 3, none⟩ v3) :=
 ⟨set_box4 h.box, Er.off (Er.off (Er.off (Er.off h.es.er hR 0 v0) hR 1 v1) hR 2 v2) hR 3 v3, Kr.off (Kr.off (Kr.off (Kr.off h.kr (Nat.le_refl _) hR 0 v0) (Nat.le_refl _) hR 1 v1) (Nat.le_refl _) hR 2 v2) (Nat.le_refl _) hR 3 v3⟩
theorem isOf_b {those : ByteArray} {p : Nat → Bool} (h : SetIs those p) (c : Nat) (hc : c < 256) (w : World) :
  Calls Tryz.prog 97 #[.string those, .int .u8 (c : Nat)] w fun e w' => e = .returned (.bool (p c)) ∧ w' = w := by
 have := isOf_c those c w
 rw [h c hc] at this
 exact this
theorem scan_end {w : World} {R : Nat} {s : ByteArray} {r : Nat} {t : Tk} (h : Es w R s s.size r t) :
  Calls Tryz.prog 77 #[ptr R] w fun e w' => ScR w w' R s r t e (.ok (⟨0, ⟨#[]⟩, 0, s.size⟩, s.size)) := by
 have hRlt := h.er.lt
 have hsz := h.er.sz
 have S0 := Sc.start h
 obtain ⟨W0, hW0⟩ : ∃ W0, w.alloc (.cells #[.int .i64 0, .string ⟨#[]⟩, .int .i64 0, .int .i64 0] 83) = W0 := ⟨_, rfl⟩
 rw [hW0] at S0
 obtain ⟨k0, k1, -⟩ := S0.es.er.cells
 have e1 : ((s.size : Int) == (s.size : Int)) = true := by simp
 have HS0 : Hid (∀ n, Sc w (W0.drewN n) R s s.size r t) := fun n => S0.below hRlt (below_drewN W0 n)
 unfold ptr
 clear h S0
 go_enter Tryz.func77, Tryz.ntmps77
 go_wp2_with fail
 try rw [hW0]
 clear hW0
 go_quiet (fail)
 obtain ⟨W1, hW1⟩ : ∃ W1, W0.drewN nq = W1 := ⟨_, rfl⟩
 have S1 := HS0.out nq
 rw [hW1] at S1 ⊢
 obtain ⟨c0, c1, c2, c3⟩ := XBase.four_box S1.box
 have f0 := XBase.frozen_box S1.box 0
 have f1 := XBase.frozen_box S1.box 1
 have f2 := XBase.frozen_box S1.box 2
 have f3 := XBase.frozen_box S1.box 3
 obtain ⟨g1, g2, g3⟩ := S1.fin hRlt (.int .i64 0) (.string ⟨#[]⟩) (.int .i64 0) (.int .i64 0)
 have HG2 : Hid (Er _ R s s.size r t) := g2
 have HG3 : Hid (Kr R w _) := g3
 have HG1 : Hid (_ = some (Obj.cells _ _ _)) := g1
 clear S1 hW1 k0 k1 g1 g2 g3
 go_wp2_with fail
 obtain ⟨d0, d1, d2, d3⟩ := XBase.four_box HG1.out
 refine bodyPost_ret (v := .agg #[.int .i64 0, .string ⟨#[]⟩, .int .i64 0, .int .i64 0]) (by simp [results, Tryz.results77, go_sem, d0, d1, d2, d3]) rfl ?_
 exact ⟨HG3.out, rfl, HG2.out⟩
theorem scan_text {w : World} {R : Nat} {s : ByteArray} {a r : Nat} {t : Tk} (h : Es w R s a r t) (hal : a < s.size) (h39 : at' s a = 39) {X : Except F (ByteArray × Nat)} (hX : ETx.txd a (txl s (s.size + 1) (a + 1) []) = X) :
  Calls Tryz.prog 77 #[ptr R] w fun e w' => ScR w w' R s r t e (tkT a X) := by
 have hRlt := h.er.lt
 have hsz := h.er.sz
 have S0 := Sc.start h
 obtain ⟨W0, hW0⟩ : ∃ W0, w.alloc (.cells #[.int .i64 0, .string ⟨#[]⟩, .int .i64 0, .int .i64 0] 83) = W0 := ⟨_, rfl⟩
 rw [hW0] at S0
 obtain ⟨k0, k1, -⟩ := S0.es.er.cells
 have e1 : ((a : Int) == (s.size : Int)) = false := by simp; omega
 have HS0 : Hid (∀ n, Sc w (W0.drewN n) R s a r t) := fun n => S0.below hRlt (below_drewN W0 n)
 have h256 := at_lt s a
 obtain ⟨y, hy⟩ : ∃ y, at' s a = y := ⟨_, rfl⟩
 have e39 : ((y : Int) == 39) = true := by simp; omega
 rw [hy] at h39 h256
 clear h39
 unfold ptr
 clear h S0
 go_enter Tryz.func77, Tryz.ntmps77
 go_wp2_with fail
 try rw [hW0]
 clear hW0
 go_quiet (fail)
 obtain ⟨W1, hW1⟩ : ∃ W1, W0.drewN nq = W1 := ⟨_, rfl⟩
 have S1 := HS0.out nq
 rw [hW1] at S1 ⊢
 have cN := next_b S1.es.er hal
 unfold ptr at cN
 rw [hy] at cN
 clear hW1 k0 k1 HS0
 go_wp2_with fail
 refine cN.mono ?_
 rintro e W2 ⟨rfl, b2⟩
 have S2 := S1.below hRlt b2
 clear S1 cN b2
 have cT := ETx.text_c S2.es hal
 unfold ptr at cT
 rw [hX] at cT
 go_wp2_with fail
 refine cT.mono ?_
 rintro e W3 hT
 clear cT hX
 cases X with
 | error x =>
  obtain ⟨k3, rfl⟩ := hT
  exact ⟨rfl, S2.kr.trans k3, rfl⟩
 | ok p =>
  obtain ⟨x, j⟩ := p
  obtain ⟨k3, rfl, e3⟩ := hT
  have S3 := S2.step hRlt k3 e3
  clear S2 k3 e3
  obtain ⟨c0, c1, c2, c3⟩ := XBase.four_box S3.box
  have f0 := XBase.frozen_box S3.box 0
  have f1 := XBase.frozen_box S3.box 1
  have f2 := XBase.frozen_box S3.box 2
  have f3 := XBase.frozen_box S3.box 3
  obtain ⟨g1, g2, g3⟩ := S3.fin hRlt (.int .i64 2) (.string x) (.int .i64 0) (.int .i64 0)
  have HG2 : Hid (Er _ R s _ r t) := g2
  have HG3 : Hid (Kr R w _) := g3
  have HG1 : Hid (_ = some (Obj.cells _ _ _)) := g1
  clear S3 g1 g2 g3
  go_wp2_with fail
  obtain ⟨d0, d1, d2, d3⟩ := XBase.four_box HG1.out
  refine bodyPost_ret (v := .agg #[.int .i64 2, .string x, .int .i64 0, .int .i64 0]) (by simp [results, Tryz.results77, go_sem, d0, d1, d2, d3]) rfl ?_
  exact ⟨HG3.out, rfl, HG2.out⟩
theorem scan_num {w : World} {R : Nat} {s : ByteArray} {a r : Nat} {t : Tk} (h : Es w R s a r t) (hal : a < s.size) (hd : EPure.dig (at' s a) = true) {X : Except F (Int × Nat)}
  (cM : ∀ W, Er W R s a r t → Calls Tryz.prog 100 #[ptr R] W fun e w' => Kr R W w' ∧ NR w' R s r t e X) :
  Calls Tryz.prog 77 #[ptr R] w fun e w' => ScR w w' R s r t e (tkN a X) := by
 have hRlt := h.er.lt
 have hsz := h.er.sz
 have S0 := Sc.start h
 obtain ⟨W0, hW0⟩ : ∃ W0, w.alloc (.cells #[.int .i64 0, .string ⟨#[]⟩, .int .i64 0, .int .i64 0] 83) = W0 := ⟨_, rfl⟩
 rw [hW0] at S0
 obtain ⟨k0, k1, -⟩ := S0.es.er.cells
 have e1 : ((a : Int) == (s.size : Int)) = false := by simp; omega
 have HS0 : Hid (∀ n, Sc w (W0.drewN n) R s a r t) := fun n => S0.below hRlt (below_drewN W0 n)
 have h256 := at_lt s a
 obtain ⟨y, hy⟩ : ∃ y, at' s a = y := ⟨_, rfl⟩
 have e39 : ((y : Int) == 39) = false := by rw [hy] at hd; unfold EPure.dig at hd; simp at hd; simp; omega
 rw [hy] at hd h256
 unfold ptr
 clear h S0
 go_enter Tryz.func77, Tryz.ntmps77
 go_wp2_with fail
 try rw [hW0]
 clear hW0
 go_quiet (fail)
 obtain ⟨W1, hW1⟩ : ∃ W1, W0.drewN nq = W1 := ⟨_, rfl⟩
 have S1 := HS0.out nq
 rw [hW1] at S1 ⊢
 have cN := next_b S1.es.er hal
 unfold ptr at cN
 rw [hy] at cN
 clear hW1 k0 k1 HS0
 go_wp2_with fail
 refine cN.mono ?_
 rintro e W2 ⟨rfl, b2⟩
 have S2 := S1.below hRlt b2
 clear S1 cN b2
 have cN2 := next_b S2.es.er hal
 unfold ptr at cN2
 rw [hy] at cN2
 go_wp2_with fail
 refine cN2.mono ?_
 rintro e W3 ⟨rfl, b3⟩
 have S3 := S2.below hRlt b3
 clear S2 cN2 b3
 have cI := isOf_b set_d y (by omega) W3
 rw [hd] at cI
 go_wp2_with fail
 refine cI.mono ?_
 rintro e w' ⟨rfl, hw'⟩
 subst hw'
 clear cI
 have cT := cM _ S3.es.er
 unfold ptr at cT
 clear cM
 go_wp2_with fail
 refine cT.mono ?_
 rintro e W4 ⟨k4, hT⟩
 clear cT
 cases X with
 | error x =>
  have hT := hT
  cases hT
  exact ⟨rfl, S3.kr.trans k4, rfl⟩
 | ok p =>
  obtain ⟨x, j⟩ := p
  obtain ⟨rfl, e4⟩ := hT
  have S4 := S3.step hRlt k4 e4
  clear S3 k4 e4
  obtain ⟨c0, c1, c2, c3⟩ := XBase.four_box S4.box
  have f0 := XBase.frozen_box S4.box 0
  have f1 := XBase.frozen_box S4.box 1
  have f2 := XBase.frozen_box S4.box 2
  have f3 := XBase.frozen_box S4.box 3
  obtain ⟨g1, g2, g3⟩ := S4.fin hRlt (.int .i64 1) (.string ⟨#[]⟩) (.int .i64 x) (.int .i64 0)
  have HG2 : Hid (Er _ R s _ r t) := g2
  have HG3 : Hid (Kr R w _) := g3
  have HG1 : Hid (_ = some (Obj.cells _ _ _)) := g1
  clear S4 g1 g2 g3
  go_wp2_with fail
  obtain ⟨d0, d1, d2, d3⟩ := XBase.four_box HG1.out
  refine bodyPost_ret (v := .agg #[.int .i64 1, .string ⟨#[]⟩, .int .i64 x, .int .i64 0]) (by simp [results, Tryz.results77, go_sem, d0, d1, d2, d3]) rfl ?_
  exact ⟨HG3.out, rfl, HG2.out⟩
theorem scan_name {w : World} {R : Nat} {s : ByteArray} {a r : Nat} {t : Tk} (h : Es w R s a r t) (hal : a < s.size) (hl : EPure.let' (at' s a) = true) {X : Except F (ByteArray × Nat)}
  (cM : ∀ W, Er W R s a r t → Calls Tryz.prog 101 #[ptr R] W fun e w' => Kr R W w' ∧ WR w' R s r t e X) :
  Calls Tryz.prog 77 #[ptr R] w fun e w' => ScR w w' R s r t e (tkW a X) := by
 have hRlt := h.er.lt
 have hsz := h.er.sz
 have S0 := Sc.start h
 obtain ⟨W0, hW0⟩ : ∃ W0, w.alloc (.cells #[.int .i64 0, .string ⟨#[]⟩, .int .i64 0, .int .i64 0] 83) = W0 := ⟨_, rfl⟩
 rw [hW0] at S0
 obtain ⟨k0, k1, -⟩ := S0.es.er.cells
 have e1 : ((a : Int) == (s.size : Int)) = false := by simp; omega
 have HS0 : Hid (∀ n, Sc w (W0.drewN n) R s a r t) := fun n => S0.below hRlt (below_drewN W0 n)
 have h256 := at_lt s a
 obtain ⟨y, hy⟩ : ∃ y, at' s a = y := ⟨_, rfl⟩
 rw [hy] at hl h256
 have e39 : ((y : Int) == 39) = false := by unfold EPure.let' at hl; simp at hl; simp; omega
 have hd : EPure.dig y = false := by unfold EPure.let' at hl; unfold EPure.dig; simp at hl; simp; omega
 unfold ptr
 clear h S0
 go_enter Tryz.func77, Tryz.ntmps77
 go_wp2_with fail
 try rw [hW0]
 clear hW0
 go_quiet (fail)
 obtain ⟨W1, hW1⟩ : ∃ W1, W0.drewN nq = W1 := ⟨_, rfl⟩
 have S1 := HS0.out nq
 rw [hW1] at S1 ⊢
 have cN := next_b S1.es.er hal
 unfold ptr at cN
 rw [hy] at cN
 clear hW1 k0 k1 HS0
 go_wp2_with fail
 refine cN.mono ?_
 rintro e W2 ⟨rfl, b2⟩
 have S2 := S1.below hRlt b2
 clear S1 cN b2
 have cN2 := next_b S2.es.er hal
 unfold ptr at cN2
 rw [hy] at cN2
 go_wp2_with fail
 refine cN2.mono ?_
 rintro e W3 ⟨rfl, b3⟩
 have S3 := S2.below hRlt b3
 clear S2 cN2 b3
 have cI := isOf_b set_d y (by omega) W3
 rw [hd] at cI
 go_wp2_with fail
 refine cI.mono ?_
 rintro e w' ⟨rfl, hw'⟩
 subst hw'
 clear cI
 have cN3 := next_b S3.es.er hal
 unfold ptr at cN3
 rw [hy] at cN3
 go_wp2_with fail
 refine cN3.mono ?_
 rintro e W4 ⟨rfl, b4⟩
 have S4 := S3.below hRlt b4
 clear S3 cN3 b4
 have cI := isOf_b EName.set_l y (by omega) W4
 rw [hl] at cI
 go_wp2_with fail
 refine cI.mono ?_
 rintro e w' ⟨rfl, hw'⟩
 subst hw'
 clear cI
 have cT := cM _ S4.es.er
 unfold ptr at cT
 clear cM
 go_wp2_with fail
 refine cT.mono ?_
 rintro e W5 ⟨k5, hT⟩
 clear cT
 cases X with
 | error x =>
  have hT := hT
  cases hT
  exact ⟨rfl, S4.kr.trans k5, rfl⟩
 | ok p =>
  obtain ⟨x, j⟩ := p
  obtain ⟨rfl, e5⟩ := hT
  have S5 := S4.step hRlt k5 e5
  clear S4 k5 e5
  obtain ⟨c0, c1, c2, c3⟩ := XBase.four_box S5.box
  have f0 := XBase.frozen_box S5.box 0
  have f1 := XBase.frozen_box S5.box 1
  have f2 := XBase.frozen_box S5.box 2
  have f3 := XBase.frozen_box S5.box 3
  obtain ⟨g1, g2, g3⟩ := S5.fin hRlt (.int .i64 3) (.string x) (.int .i64 0) (.int .i64 0)
  have HG2 : Hid (Er _ R s _ r t) := g2
  have HG3 : Hid (Kr R w _) := g3
  have HG1 : Hid (_ = some (Obj.cells _ _ _)) := g1
  clear S5 g1 g2 g3
  go_wp2_with fail
  obtain ⟨d0, d1, d2, d3⟩ := XBase.four_box HG1.out
  refine bodyPost_ret (v := .agg #[.int .i64 3, .string x, .int .i64 0, .int .i64 0]) (by simp [results, Tryz.results77, go_sem, d0, d1, d2, d3]) rfl ?_
  exact ⟨HG3.out, rfl, HG2.out⟩
theorem scan_sign {w : World} {R : Nat} {s : ByteArray} {a r : Nat} {t : Tk} (h : Es w R s a r t) (hal : a < s.size) (h39 : at' s a ≠ 39) (hd : EPure.dig (at' s a) = false) (hl : EPure.let' (at' s a) = false) :
  Calls Tryz.prog 77 #[ptr R] w fun e w' => ScR w w' R s r t e (tkS a (sgn s a signs)) := by
 have hRlt := h.er.lt
 have hsz := h.er.sz
 have S0 := Sc.start h
 obtain ⟨W0, hW0⟩ : ∃ W0, w.alloc (.cells #[.int .i64 0, .string ⟨#[]⟩, .int .i64 0, .int .i64 0] 83) = W0 := ⟨_, rfl⟩
 rw [hW0] at S0
 obtain ⟨k0, k1, -⟩ := S0.es.er.cells
 have e1 : ((a : Int) == (s.size : Int)) = false := by simp; omega
 have HS0 : Hid (∀ n, Sc w (W0.drewN n) R s a r t) := fun n => S0.below hRlt (below_drewN W0 n)
 have h256 := at_lt s a
 obtain ⟨y, hy⟩ : ∃ y, at' s a = y := ⟨_, rfl⟩
 rw [hy] at hl h256 hd h39
 have e39 : ((y : Int) == 39) = false := by simp; omega
 obtain ⟨X, hX⟩ : ∃ X, sgn s a signs = X := ⟨_, rfl⟩
 rw [hX]
 clear h39
 unfold ptr
 clear h S0
 go_enter Tryz.func77, Tryz.ntmps77
 go_wp2_with fail
 try rw [hW0]
 clear hW0
 go_quiet (fail)
 obtain ⟨W1, hW1⟩ : ∃ W1, W0.drewN nq = W1 := ⟨_, rfl⟩
 have S1 := HS0.out nq
 rw [hW1] at S1 ⊢
 have cN := next_b S1.es.er hal
 unfold ptr at cN
 rw [hy] at cN
 clear hW1 k0 k1 HS0
 go_wp2_with fail
 refine cN.mono ?_
 rintro e W2 ⟨rfl, b2⟩
 have S2 := S1.below hRlt b2
 clear S1 cN b2
 have cN2 := next_b S2.es.er hal
 unfold ptr at cN2
 rw [hy] at cN2
 go_wp2_with fail
 refine cN2.mono ?_
 rintro e W3 ⟨rfl, b3⟩
 have S3 := S2.below hRlt b3
 clear S2 cN2 b3
 have cI := isOf_b set_d y (by omega) W3
 rw [hd] at cI
 go_wp2_with fail
 refine cI.mono ?_
 rintro e w' ⟨rfl, hw'⟩
 subst hw'
 clear cI
 have cN3 := next_b S3.es.er hal
 unfold ptr at cN3
 rw [hy] at cN3
 go_wp2_with fail
 refine cN3.mono ?_
 rintro e W4 ⟨rfl, b4⟩
 have S4 := S3.below hRlt b4
 clear S3 cN3 b4
 have cI := isOf_b EName.set_l y (by omega) W4
 rw [hl] at cI
 go_wp2_with fail
 refine cI.mono ?_
 rintro e w' ⟨rfl, hw'⟩
 subst hw'
 clear cI
 have cT := ESg.sign_c S4.es.er hal
 unfold ptr at cT
 rw [hX] at cT
 clear hX
 go_wp2_with fail
 refine cT.mono ?_
 rintro e W5 hT
 clear cT
 cases X with
 | error x =>
  obtain ⟨k5, rfl⟩ := hT
  exact ⟨rfl, S4.kr.trans k5, rfl⟩
 | ok p =>
  obtain ⟨x, j⟩ := p
  obtain ⟨k5, rfl, e5⟩ := hT
  have S5 := S4.step hRlt k5 e5
  clear S4 k5 e5
  obtain ⟨c0, c1, c2, c3⟩ := XBase.four_box S5.box
  have f0 := XBase.frozen_box S5.box 0
  have f1 := XBase.frozen_box S5.box 1
  have f2 := XBase.frozen_box S5.box 2
  have f3 := XBase.frozen_box S5.box 3
  obtain ⟨g1, g2, g3⟩ := S5.fin hRlt (.int .i64 4) (.string x) (.int .i64 0) (.int .i64 0)
  have HG2 : Hid (Er _ R s _ r t) := g2
  have HG3 : Hid (Kr R w _) := g3
  have HG1 : Hid (_ = some (Obj.cells _ _ _)) := g1
  clear S5 g1 g2 g3
  go_wp2_with fail
  obtain ⟨d0, d1, d2, d3⟩ := XBase.four_box HG1.out
  refine bodyPost_ret (v := .agg #[.int .i64 4, .string x, .int .i64 0, .int .i64 0]) (by simp [results, Tryz.results77, go_sem, d0, d1, d2, d3]) rfl ?_
  exact ⟨HG3.out, rfl, HG2.out⟩
theorem scan_c {w : World} {R : Nat} {s : ByteArray} {a r : Nat} {t : Tk} (h : Es w R s a r t) :
  Calls Tryz.prog 77 #[ptr R] w fun e w' => ScR w w' R s r t e (scan s a) := by
 have hla := h.er.la
 unfold scan
 by_cases hs : s.size ≤ a
 ·rw [if_pos hs]
  have : a = s.size := by omega
  subst this
  exact scan_end h
 ·rw [if_neg hs]
  have hal : a < s.size := by omega
  by_cases h39 : at' s a = 39
  ·rw [if_pos h39]
   refine (scan_text h hal h39 rfl).mono ?_
   intro e w'
   unfold tkT
   generalize txl s (s.size + 1) (a + 1) [] = Y
   cases Y with
   | error f => exact id
   | ok p =>
    obtain ⟨l, j⟩ := p
    unfold ETx.txd
    dsimp only
    by_cases hl : 4096 < l.length
    ·rw [if_pos hl, if_pos hl]; exact id
    ·rw [if_neg hl, if_neg hl]; exact id
  ·rw [if_neg h39]
   by_cases h48 : at' s a = 48
   ·rw [if_pos h48]
    refine (scan_num (X := .ok (0, a + 1)) h hal (by rw [h48]; rfl) fun W hW => ?_).mono fun e w' => id
    refine (ENm.number_zero hW h48).mono ?_
    rintro e w' ⟨h1, h2, h3⟩
    exact ⟨h3, h1, h2⟩
   ·rw [if_neg h48]
    by_cases hd : EPure.dig (at' s a) = true
    ·rw [if_pos hd]
     by_cases hp : Nums.perr (Sums.bs (cut s a (skp EPure.dig s a))) = 0
     ·rw [if_pos hp]
      refine (scan_num (X := .ok (Nums.pnum (Sums.bs (cut s a (skp EPure.dig s a))), skp EPure.dig s a)) h hal hd fun W hW => ?_).mono fun e w' => id
      refine (ENm.number_c hW hal h48).mono ?_
      rintro e w' ⟨h1, h2, h3⟩
      rw [if_pos hp] at h3
      exact ⟨h1, h3, h2⟩
     ·rw [if_neg hp]
      refine (scan_num (X := .error (1000, a)) h hal hd fun W hW => ?_).mono fun e w' => id
      refine (ENm.number_c hW hal h48).mono ?_
      rintro e w' ⟨h1, h2, h3⟩
      rw [if_neg hp] at h3
      exact ⟨h1, h3⟩
    ·rw [if_neg hd]
     by_cases hl : EPure.let' (at' s a) = true
     ·rw [if_pos hl]
      by_cases hp : skp wrd s a - a ≤ 32
      ·rw [if_pos hp]
       refine (scan_name (X := .ok (cut s a (skp wrd s a), skp wrd s a)) h hal hl fun W hW => ?_).mono fun e w' => id
       refine (EName.name_c hW hal hl).mono ?_
       rintro e w' ⟨h1, h2, h3⟩
       rw [if_pos hp] at h3
       exact ⟨h1, h3, h2⟩
      ·rw [if_neg hp]
       refine (scan_name (X := .error (1000, a)) h hal hl fun W hW => ?_).mono fun e w' => id
       refine (EName.name_c hW hal hl).mono ?_
       rintro e w' ⟨h1, h2, h3⟩
       rw [if_neg hp] at h3
       exact ⟨h1, h3⟩
     ·rw [if_neg hl]
      refine (scan_sign h hal h39 (by simpa using hd) (by simpa using hl)).mono fun e w' => ?_
      unfold tkS
      exact id
end Go.Proofs.YtghnhkagkngjcaaGreatDoor.ESc

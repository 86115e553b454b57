import Derived.Test.YtaiackmmmlhgbaaGreatPR05
import Derived.Test.YtaiackmmmlhgbaaGreatPR07
import Derived.Test.YtaiackmmmlhgbaaGreatPR11
import Derived.Test.YtaiackmmmlhgbaaGreatPR25
open Go.Proofs.Tryz
set_option linter.unusedVariables false
set_option maxRecDepth 20000
namespace Go.Proofs.YtaiackmmmlhgbaaGreat.ZSm
open Go.RowKit YPl YRr YRsf
open TBase (T Keep)
def Kd (k : Nat) (u u' : Value) : Prop := u' = u \/ (∃ s s' : ByteArray, u = .string s /\ u' = .string s' /\ s'.size <= s.size + k) \/ (∃ i i' : Int, u = .int .i64 i /\ u' = .int .i64 i')
theorem Kd.trans {a b : Nat} {u v x : Value} (h : Kd a u v) (k : Kd b v x) : Kd (a + b) u x := by
  rcases h with rfl | ⟨s, s', rfl, rfl, h⟩ | ⟨i, i', rfl, rfl⟩
  · rcases k with k | ⟨t, t', rfl, rfl, k⟩ | k
    · exact .inl k
    · exact .inr (.inl ⟨_, _, rfl, rfl, by omega⟩)
    · exact .inr (.inr k)
  · rcases k with rfl | ⟨t, t', e, rfl, k⟩ | ⟨i, i', e, -⟩
    · exact .inr (.inl ⟨_, _, rfl, rfl, by omega⟩)
    · cases e
      exact .inr (.inl ⟨_, _, rfl, rfl, by omega⟩)
    · cases e
  · rcases k with rfl | ⟨t, t', e, -⟩ | ⟨j, j', e, rfl⟩
    · exact .inr (.inr ⟨_, _, rfl, rfl⟩)
    · cases e
    · exact .inr (.inr ⟨_, _, rfl, rfl⟩)
structure Sm (lo : Nat) (S : Nat -> Prop) (k : Nat) (w w' : World) : Prop where
  below : Below lo w w'
  size : w'.heap.size = w.heap.size
  out : ∀ b, ¬ S b -> w'.heap[b]? = w.heap[b]?
  cell : ∀ g j u, S g -> w.cell? ⟨g, j, none⟩ = some u -> ∃ u', w'.cell? ⟨g, j, none⟩ = some u' /\ Kd k u u'
  froz : ∀ g j, w'.frozen? ⟨g, j, none⟩ = w.frozen? ⟨g, j, none⟩
section
variable {lo k k' : Nat} {S : Nat -> Prop} {a b c : World}
theorem Sm.refl : Sm lo S 0 a a := ⟨Below.refl _ _, rfl, fun _ _ => rfl, fun g j u _ h => ⟨u, h, .inl rfl⟩, fun _ _ => rfl⟩
theorem Sm.trans (h : Sm lo S k a b) (h' : Sm lo S k' b c) : Sm lo S (k + k') a c :=
  ⟨h.below.trans h'.below, h'.size.trans h.size, fun g hg => (h'.out g hg).trans (h.out g hg), fun g j u hg hu => by
    obtain ⟨u1, h1, h2⟩ := h.cell g j u hg hu
    obtain ⟨u2, h3, h4⟩ := h'.cell g j u1 hg h1
    exact ⟨u2, h3, h2.trans h4⟩, fun g j => (h'.froz g j).trans (h.froz g j)⟩
theorem Sm.set {g j : Nat} {u u' : Value} (hg : S g) (hl : lo <= g) (hu : a.cell? ⟨g, j, none⟩ = some u) (hk : Kd k u u') : Sm lo S k a (a.setCell ⟨g, j, none⟩ u') :=
  ⟨(Below.refl lo a).setCell (p := ⟨g, j, none⟩) hl u', by simp [World.setCell], fun q hq => Below.heap_setCell _ _ _ _ (fun e => hq (by rw [e]; exact hg)), fun q i x hq hx => by
    by_cases e : (⟨g, j, none⟩ : Addr) = ⟨q, i, none⟩
    · cases e
      have hx2 : u = x := by rw [hu] at hx; exact Option.some.inj hx
      subst hx2
      exact ⟨u', World.cell?_setCell_same _ _ _ hu, hk⟩
    · exact ⟨x, (World.cell?_setCell_other _ _ _ _ e).trans hx, .inl rfl⟩, fun q i => World.frozen?_setCell _ _ _ _⟩
theorem Sm.str {g j : Nat} {s : ByteArray} (h : Sm lo S k a b) (hg : S g) (hu : a.cell? ⟨g, j, none⟩ = some (.string s)) : ∃ s', b.cell? ⟨g, j, none⟩ = some (.string s') /\ s'.size <= s.size + k := by
  obtain ⟨u, h1, h2⟩ := h.cell g j _ hg hu
  rcases h2 with rfl | ⟨t, t', e, rfl, h2⟩ | ⟨i, i', e, -⟩
  · exact ⟨s, h1, by omega⟩
  · cases e
    exact ⟨t', h1, h2⟩
  · cases e
theorem Sm.int {g j : Nat} {i : Int} (h : Sm lo S k a b) (hg : S g) (hu : a.cell? ⟨g, j, none⟩ = some (.int .i64 i)) : ∃ i', b.cell? ⟨g, j, none⟩ = some (.int .i64 i') := by
  obtain ⟨u, h1, h2⟩ := h.cell g j _ hg hu
  rcases h2 with rfl | ⟨t, t', e, -⟩ | ⟨x, x', e, rfl⟩
  · exact ⟨i, h1⟩
  · cases e
  · exact ⟨x', h1⟩
theorem Sm.sl {g j m c : Nat} {ad : Option Addr} (h : Sm lo S k a b) (hg : S g) (hu : a.cell? ⟨g, j, none⟩ = some (.slice ad m c)) : b.cell? ⟨g, j, none⟩ = some (.slice ad m c) := by
  obtain ⟨u, h1, h2⟩ := h.cell g j _ hg hu
  rcases h2 with rfl | ⟨t, t', e, -⟩ | ⟨x, x', e, -⟩
  · exact h1
  · cases e
  · cases e
end
theorem tld (t : ByteArray) : ((⟨#[126]⟩ : ByteArray) ++ t).size <= t.size + 1 := by
  rw [ByteArray.size_append]
  show 1 + t.size <= _
  omega
def Sp (lo : Nat) (S : Nat -> Prop) (w : World) : Prop := ∀ b, S b -> lo <= b /\ NfB w b
theorem rrs_at {α : Type} {n : Nat} {Ly : World -> Nat -> Nat -> α -> Prop} {S : Nat -> Prop} {w : World} {v : Value} {l : List α} (h : RrS n Ly S w v l) {j : Nat} (hj : j < l.length) : ∃ g o c, v = .slice (some ⟨g, o, none⟩) l.length c /\ S g /\ Ly w g (o + j * n) l[j] := by
  obtain ⟨a, cap, rfl, -, -, -, -, h6⟩ := h
  rcases h6 with h6 | ⟨g, o, rfl, hg, hc⟩
  · rw [h6] at hj; simp at hj
  · exact ⟨g, o, cap, rfl, hg, hc j hj⟩
theorem rrs_sl {α : Type} {n : Nat} {Ly : World -> Nat -> Nat -> α -> Prop} {S : Nat -> Prop} {w : World} {v : Value} {l : List α} (h : RrS n Ly S w v l) : ∃ a c, v = .slice a l.length c /\ l.length <= 140737488351232 := by
  obtain ⟨a, cap, rfl, -, -, h, -⟩ := h
  exact ⟨a, cap, rfl, h⟩
theorem spoilT_c {lo k : Nat} {S : Nat -> Prop} {K w : World} {v : Value} {l : List ByteArray} (h : RrS 1 LyS S K v l) (hS : Sp lo S K) (hs : Sm lo S k K w) (hk : k + l.length <= 4611686018427387904) :
    Calls prog 34 #[v] w fun e w' => (∃ r, e = .returned r) /\ Sm lo S l.length w w' := by
  obtain ⟨a, c, rfl, h47⟩ := rrs_sl h
  go_enter func34, ntmps34
  go_wp2_with fail
  go_loopw [2] (fun i wr => ∃ q : Nat, q <= l.length /\ i = .int .i64 q /\ Sm lo S q w wr) (fun i _ => l.length - (intOf i).toNat)
  case atStart => exact ⟨0, by omega, rfl, Sm.refl⟩
  case round =>
    obtain ⟨q, hq, rfl, hm⟩ := hrel
    by_cases hlt : q < l.length
    · obtain ⟨g, o, cap, e, hg, hc⟩ := rrs_at h hlt
      cases e
      have hx := hc.1
      rw [Nat.mul_one] at hx
      obtain ⟨t, ht, hsz⟩ := (hs.trans hm).str hg hx
      have hsz2 : t.size <= 4611826755915743232 := by have := hc.2; omega
      have hfz : wr.frozen? ⟨g, o + q, none⟩ = false := ((hs.trans hm).froz g (o + q)).trans ((hS g hg).2 (o + q))
      have hlo := (hS g hg).1
      clear hx hc hsz
      go_wp2_with fail
      go_roundw
      case rel => exact ⟨q + 1, by omega, by go_num, hm.trans (Sm.set hg hlo ht (.inr (.inl ⟨_, _, rfl, rfl, tld t⟩)))⟩
      case measure => simp only [intOf]; omega
    · have hlt' : decide ((q : Int) < (l.length : Int)) = false := by simp; omega
      obtain rfl : q = l.length := by omega
      go_wp2_with fail
      go_end0
      exact ⟨⟨_, rfl⟩, hm⟩
theorem spoilI_c {lo k : Nat} {S : Nat -> Prop} {K w : World} {v : Value} {l : List Int} (h : RrS 1 LyI S K v l) (hS : Sp lo S K) (hs : Sm lo S k K w) :
    Calls prog 122 #[v] w fun e w' => (∃ r, e = .returned r) /\ Sm lo S 0 w w' := by
  obtain ⟨a, c, rfl, h47⟩ := rrs_sl h
  go_enter func122, ntmps122
  go_wp2_with fail
  go_loopw [2] (fun i wr => ∃ q : Nat, q <= l.length /\ i = .int .i64 q /\ Sm lo S 0 w wr) (fun i _ => l.length - (intOf i).toNat)
  case atStart => exact ⟨0, by omega, rfl, Sm.refl⟩
  case round =>
    obtain ⟨q, hq, rfl, hm⟩ := hrel
    by_cases hlt : q < l.length
    · obtain ⟨g, o, cap, e, hg, hc⟩ := rrs_at h hlt
      cases e
      have hx := hc.1
      rw [Nat.mul_one] at hx
      obtain ⟨t, ht⟩ := (hs.trans hm).int hg hx
      have hfz : wr.frozen? ⟨g, o + q, none⟩ = false := ((hs.trans hm).froz g (o + q)).trans ((hS g hg).2 (o + q))
      have hlo := (hS g hg).1
      clear hx hc
      go_wp2_with fail
      go_roundw
      case rel => exact ⟨q + 1, by omega, by go_num, hm.trans (k' := 0) (Sm.set hg hlo ht (.inr (.inr ⟨_, _, rfl, rfl⟩)))⟩
      case measure => simp only [intOf]; omega
    · have hlt' : decide ((q : Int) < (l.length : Int)) = false := by simp; omega
      go_wp2_with fail
      go_end0
      exact ⟨⟨_, rfl⟩, hm⟩
theorem spoilN_c {lo k : Nat} {S : Nat -> Prop} {K w : World} {v : Value} {l : List Ins} (h : RrS 2 LyN S K v l) (hS : Sp lo S K) (hs : Sm lo S k K w) :
    Calls prog 35 #[v] w fun e w' => (∃ r, e = .returned r) /\ Sm lo S 0 w w' := by
  obtain ⟨a, c, rfl, h47⟩ := rrs_sl h
  go_enter func35, ntmps35
  go_wp2_with fail
  go_loopw [2] (fun i wr => ∃ q : Nat, q <= l.length /\ i = .int .i64 q /\ Sm lo S 0 w wr) (fun i _ => l.length - (intOf i).toNat)
  case atStart => exact ⟨0, by omega, rfl, Sm.refl⟩
  case round =>
    obtain ⟨q, hq, rfl, hm⟩ := hrel
    by_cases hlt : q < l.length
    · obtain ⟨g, o, cap, e, hg, hc⟩ := rrs_at h hlt
      cases e
      obtain ⟨t, ht⟩ := (hs.trans hm).int hg hc.2.1
      have hfz : wr.frozen? ⟨g, o + q * 2 + 1, none⟩ = false := ((hs.trans hm).froz g _).trans ((hS g hg).2 _)
      have hlo := (hS g hg).1
      clear hc
      go_wp2_with fail
      go_roundw
      case rel => exact ⟨q + 1, by omega, by go_num, hm.trans (k' := 0) (Sm.set hg hlo ht (.inr (.inr ⟨_, _, rfl, rfl⟩)))⟩
      case measure => simp only [intOf]; omega
    · have hlt' : decide ((q : Int) < (l.length : Int)) = false := by simp; omega
      go_wp2_with fail
      go_end0
      exact ⟨⟨_, rfl⟩, hm⟩
theorem ax_at {S : Nat -> Prop} {w : World} {v : Value} {l : List (ByteArray × ByteArray)} (h : TBase.Ax false S w v l) {j : Nat} (hj : j < l.length) : ∃ g o c, v = .slice (some ⟨g, o, none⟩) l.length c /\ S g /\ w.cell? ⟨g, o + j * 2 + 1, none⟩ = some (.string l[j].2) /\ l[j].2.size <= 140737488351232 := by
  obtain ⟨a, cap, rfl, -, -, -, h4, -, h6⟩ := h
  rcases h6 with ⟨h6, -⟩ | ⟨g, o, rfl, hg, hc, -⟩
  · rw [h6] at hj; simp at hj
  · exact ⟨g, o, cap, rfl, hg, (hc j hj).2, (h4 _ (List.getElem_mem hj)).2⟩
theorem ax_sl {S : Nat -> Prop} {w : World} {v : Value} {l : List (ByteArray × ByteArray)} (h : TBase.Ax false S w v l) : ∃ a c, v = .slice a l.length c /\ l.length <= 140737488351232 := by
  obtain ⟨a, cap, rfl, -, -, h, -⟩ := h
  exact ⟨a, cap, rfl, by omega⟩
theorem spoilA_c {lo k : Nat} {S : Nat -> Prop} {K w : World} {v : Value} {l : List (ByteArray × ByteArray)} (h : TBase.Ax false S K v l) (hS : Sp lo S K) (hs : Sm lo S k K w) (hk : k + l.length <= 4611686018427387904) :
    Calls prog 120 #[v] w fun e w' => (∃ r, e = .returned r) /\ Sm lo S l.length w w' := by
  obtain ⟨a, c, rfl, h47⟩ := ax_sl h
  go_enter func120, ntmps120
  go_wp2_with fail
  go_loopw [2] (fun i wr => ∃ q : Nat, q <= l.length /\ i = .int .i64 q /\ Sm lo S q w wr) (fun i _ => l.length - (intOf i).toNat)
  case atStart => exact ⟨0, by omega, rfl, Sm.refl⟩
  case round =>
    obtain ⟨q, hq, rfl, hm⟩ := hrel
    by_cases hlt : q < l.length
    · obtain ⟨g, o, cap, e, hg, hx, hsx⟩ := ax_at h hlt
      cases e
      obtain ⟨t, ht, hsz⟩ := (hs.trans hm).str hg hx
      have hsz2 : t.size <= 4611826755915743232 := by omega
      have hfz : wr.frozen? ⟨g, o + q * 2 + 1, none⟩ = false := ((hs.trans hm).froz g _).trans ((hS g hg).2 _)
      have hlo := (hS g hg).1
      clear hx hsx hsz
      go_wp2_with fail
      go_roundw
      case rel => exact ⟨q + 1, by omega, by go_num, hm.trans (Sm.set hg hlo ht (.inr (.inl ⟨_, _, rfl, rfl, tld t⟩)))⟩
      case measure => simp only [intOf]; omega
    · have hlt' : decide ((q : Int) < (l.length : Int)) = false := by simp; omega
      obtain rfl : q = l.length := by omega
      go_wp2_with fail
      go_end0
      exact ⟨⟨_, rfl⟩, hm⟩
end Go.Proofs.YtaiackmmmlhgbaaGreat.ZSm
namespace Go.Proofs.YtaiackmmmlhgbaaGreat.ZSo
open Go.RowKit YPl YRr YRsf ZSm
open TBase (T Keep)
theorem spoilO1_c {lo k g o : Nat} {S : Nat -> Prop} {K w : World} {x : Oq} (hg : S g) (h : LyOs S K g o x) (hS : Sp lo S K) (hs : Sm lo S k K w) :
    Calls prog 169 #[.pointer (some ⟨g, o, none⟩)] w fun e w' => (∃ r, e = .returned r) /\ Sm lo S 0 w w' := by
  obtain ⟨v, h0, -, -, -, h4, -, hl⟩ := h
  obtain ⟨a, c, rfl, -⟩ := rrs_sl hl
  have l4 := hs.sl hg h4
  have cI := spoilI_c hl hS hs
  go_enter func169, ntmps169
  go_wp2_with fail
  refine cI.mono ?_
  rintro e w1 ⟨⟨r, rfl⟩, m1⟩
  obtain ⟨t1, ht1⟩ := (hs.trans m1).int hg h0
  have hfz : w1.frozen? ⟨g, o, none⟩ = false := ((hs.trans m1).froz g _).trans ((hS g hg).2 _)
  have hlo := (hS g hg).1
  clear cI l4 h4 h0
  go_wp2_with fail
  go_end0
  exact ⟨⟨_, rfl⟩, m1.trans (k' := 0) (Sm.set hg hlo ht1 (.inr (.inr ⟨_, _, rfl, rfl⟩)))⟩
theorem spoilO_c {lo k : Nat} {S : Nat -> Prop} {K w : World} {v : Value} {l : List Oq} (h : RrS 5 (LyOs S) S K v l) (hS : Sp lo S K) (hs : Sm lo S k K w) :
    Calls prog 121 #[v] w fun e w' => (∃ r, e = .returned r) /\ Sm lo S 0 w w' := by
  obtain ⟨a, c, rfl, h47⟩ := rrs_sl h
  go_enter func121, ntmps121
  go_wp2_with fail
  go_loopw [2] (fun i wr => ∃ q : Nat, q <= l.length /\ i = .int .i64 q /\ Sm lo S 0 w wr) (fun i _ => l.length - (intOf i).toNat)
  case atStart => exact ⟨0, by omega, rfl, Sm.refl⟩
  case round =>
    obtain ⟨q, hq, rfl, hm⟩ := hrel
    by_cases hlt : q < l.length
    · obtain ⟨g, o, cap, e, hg, hc⟩ := rrs_at h hlt
      cases e
      have cO := spoilO1_c hg hc hS (hs.trans hm)
      clear hc
      go_wp2_with fail
      refine cO.mono ?_
      rintro e w1 ⟨⟨r, rfl⟩, m1⟩
      clear cO
      go_wp2_with fail
      go_roundw
      case rel => exact ⟨q + 1, by omega, by go_num, hm.trans (k' := 0) m1⟩
      case measure => simp only [intOf]; omega
    · have hlt' : decide ((q : Int) < (l.length : Int)) = false := by simp; omega
      go_wp2_with fail
      go_end0
      exact ⟨⟨_, rfl⟩, hm⟩
theorem spoilB1_c {lo k g o : Nat} {S : Nat -> Prop} {K w : World} {x : Bk} (hg : S g) (h : LyBs S K g o x) (hS : Sp lo S K) (hs : Sm lo S k K w) :
    Calls prog 74 #[.pointer (some ⟨g, o, none⟩)] w fun e w' => (∃ r, e = .returned r) /\ Sm lo S 0 w w' := by
  obtain ⟨v, u, h0, h1, h2, -, hl, hu⟩ := h
  obtain ⟨a, c, rfl, -⟩ := rrs_sl hl
  obtain ⟨a', c', rfl, -⟩ := rrs_sl hu
  have l1 := hs.sl hg h1
  have cO := spoilO_c hl hS hs
  go_enter func74, ntmps74
  go_wp2_with fail
  refine cO.mono ?_
  rintro e w1 ⟨⟨r, rfl⟩, m1⟩
  have l2 := (hs.trans m1).sl hg h2
  have cI := spoilI_c hu hS (hs.trans m1)
  clear cO l1
  go_wp2_with fail
  refine cI.mono ?_
  rintro e w2 ⟨⟨r, rfl⟩, m2⟩
  obtain ⟨t1, ht1⟩ := ((hs.trans m1).trans m2).int hg h0
  have hfz : w2.frozen? ⟨g, o, none⟩ = false := (((hs.trans m1).trans m2).froz g _).trans ((hS g hg).2 _)
  have hlo := (hS g hg).1
  clear cI l2 h0 h1 h2
  go_wp2_with fail
  go_end0
  exact ⟨⟨_, rfl⟩, (m1.trans (k' := 0) m2).trans (k' := 0) (Sm.set hg hlo ht1 (.inr (.inr ⟨_, _, rfl, rfl⟩)))⟩
theorem spoilB_c {lo k : Nat} {S : Nat -> Prop} {K w : World} {v : Value} {l : List Bk} (h : RrS 3 (LyBs S) S K v l) (hS : Sp lo S K) (hs : Sm lo S k K w) :
    Calls prog 37 #[v] w fun e w' => (∃ r, e = .returned r) /\ Sm lo S 0 w w' := by
  obtain ⟨a, c, rfl, h47⟩ := rrs_sl h
  go_enter func37, ntmps37
  go_wp2_with fail
  go_loopw [2] (fun i wr => ∃ q : Nat, q <= l.length /\ i = .int .i64 q /\ Sm lo S 0 w wr) (fun i _ => l.length - (intOf i).toNat)
  case atStart => exact ⟨0, by omega, rfl, Sm.refl⟩
  case round =>
    obtain ⟨q, hq, rfl, hm⟩ := hrel
    by_cases hlt : q < l.length
    · obtain ⟨g, o, cap, e, hg, hc⟩ := rrs_at h hlt
      cases e
      have cO := spoilB1_c hg hc hS (hs.trans hm)
      clear hc
      go_wp2_with fail
      refine cO.mono ?_
      rintro e w1 ⟨⟨r, rfl⟩, m1⟩
      clear cO
      go_wp2_with fail
      go_roundw
      case rel => exact ⟨q + 1, by omega, by go_num, hm.trans (k' := 0) m1⟩
      case measure => simp only [intOf]; omega
    · have hlt' : decide ((q : Int) < (l.length : Int)) = false := by simp; omega
      go_wp2_with fail
      go_end0
      exact ⟨⟨_, rfl⟩, hm⟩
def nTL : List T -> Nat
  | [] => 0
  | .mk _ _ n l :: cs => n.length + nTL l + 1 + nTL cs
theorem nTL_cons (t : T) (cs : List T) : nTL (t :: cs) = t.n.length + nTL t.l + 1 + nTL cs := by
  obtain ⟨g, s, n, l⟩ := t
  rw [nTL]
  rfl
theorem nTL_app : ∀ a b : List T, nTL (a ++ b) = nTL a + nTL b
  | [], b => by simp [nTL]
  | t :: a, b => by rw [List.cons_append, nTL_cons, nTL_cons, nTL_app a b]; omega
theorem nTL_take {l : List T} {q : Nat} (hq : q < l.length) : nTL (l.take (q + 1)) = nTL (l.take q) + (l[q].n.length + nTL l[q].l + 1) := by
  rw [List.take_succ_eq_append_getElem hq, nTL_app, nTL_cons, nTL]
theorem nTL_le {l : List T} (q : Nat) : nTL (l.take q) <= nTL l := by
  have := nTL_app (l.take q) (l.drop q)
  rw [List.take_append_drop] at this
  omega
theorem inl_at {S : Nat -> Prop} {w : World} {m : Nat} {v : Value} {l : List T} (h : TBase.InL false S w m v l) {j : Nat} (hj : j < l.length) : ∃ g o c u, v = .slice (some ⟨g, o, none⟩) l.length c /\ S g /\ TBase.Four w g (o + j * 4) u /\ TBase.In false S w m u l[j] := by
  obtain ⟨a, cap, rfl, -, -, -, -, h6⟩ := h
  rcases h6 with ⟨h6, -⟩ | ⟨g, o, rfl, hg, hc, -⟩
  · rw [h6] at hj; simp at hj
  · obtain ⟨u, h1, h2⟩ := hc j hj
    exact ⟨g, o, cap, u, rfl, hg, h1, h2⟩
theorem inl_sl {S : Nat -> Prop} {w : World} {m : Nat} {v : Value} {l : List T} (h : TBase.InL false S w m v l) : ∃ a c, v = .slice a l.length c /\ l.length <= 140737488351232 := by
  obtain ⟨a, cap, rfl, -, -, h, -⟩ := h
  exact ⟨a, cap, rfl, by omega⟩
def St (m : Nat) : Prop := ∀ (lo k g o : Nat) (S : Nat -> Prop) (K w : World) (u : Value) (t : T), S g -> TBase.Four K g o u -> TBase.In false S K m u t -> Sp lo S K -> Sm lo S k K w -> k + (t.n.length + nTL t.l + 1) <= 4611686018427387904 ->
  Calls prog 73 #[.pointer (some ⟨g, o, none⟩)] w fun e w' => (∃ r, e = .returned r) /\ Sm lo S (t.n.length + nTL t.l + 1) w w'
theorem trees_of {m : Nat} (hm : St m) {lo k : Nat} {S : Nat -> Prop} {K w : World} {v : Value} {l : List T} (h : TBase.InL false S K m v l) (hS : Sp lo S K) (hs : Sm lo S k K w) (hk : k + nTL l <= 4611686018427387904) :
    Calls prog 36 #[v] w fun e w' => (∃ r, e = .returned r) /\ Sm lo S (nTL l) w w' := by
  obtain ⟨a, c, rfl, h47⟩ := inl_sl h
  go_enter func36, ntmps36
  go_wp2_with fail
  go_loopw [2] (fun i wr => ∃ q : Nat, q <= l.length /\ i = .int .i64 q /\ Sm lo S (nTL (l.take q)) w wr) (fun i _ => l.length - (intOf i).toNat)
  case atStart => exact ⟨0, by omega, rfl, by rw [List.take_zero, nTL]; exact Sm.refl⟩
  case round =>
    obtain ⟨q, hq, rfl, hsm⟩ := hrel
    by_cases hlt : q < l.length
    · obtain ⟨g, o, cap, u, e, hg, h4, hin⟩ := inl_at h hlt
      cases e
      have hn := nTL_take hlt
      have hle := nTL_le (l := l) (q + 1)
      have cO := hm _ _ g (o + q * 4) S K wr u l[q] hg h4 hin hS (hs.trans hsm) (by omega)
      clear h4 hin
      go_wp2_with fail
      refine cO.mono ?_
      rintro e w1 ⟨⟨r, rfl⟩, m1⟩
      clear cO
      go_wp2_with fail
      go_roundw
      case rel => exact ⟨q + 1, by omega, by go_num, by rw [hn]; exact hsm.trans m1⟩
      case measure => simp only [intOf]; omega
    · have hlt' : decide ((q : Int) < (l.length : Int)) = false := by simp; omega
      obtain rfl : q = l.length := by omega
      rw [List.take_length] at hsm
      go_wp2_with fail
      go_end0
      exact ⟨⟨_, rfl⟩, hsm⟩
theorem tree_of {m : Nat} (hm : St m) : St (m + 1) := by
  intro lo k g o S K w u t hg h4 hin hS hs hk
  obtain ⟨tg, ts, tn, tl⟩ := t
  rw [TBase.in_iff] at hin
  obtain ⟨nv, lv, rfl, hsg, -, hn, hl⟩ := hin
  obtain ⟨x0, x1, x2, x3, e, d0, -, d2, d3⟩ := h4
  cases e
  obtain ⟨a, c, rfl, -⟩ := ax_sl hn
  obtain ⟨a', c', rfl, -⟩ := inl_sl hl
  change k + (tn.length + nTL tl + 1) <= _ at hk
  have l2 := hs.sl hg d2
  have cA := spoilA_c hn hS hs (by omega)
  show Calls _ _ _ _ fun e w' => _ /\ Sm lo S (tn.length + nTL tl + 1) w w'
  go_enter func73, ntmps73
  go_wp2_with fail
  refine cA.mono ?_
  rintro e w1 ⟨⟨r, rfl⟩, m1⟩
  have l3 := (hs.trans m1).sl hg d3
  have cT := trees_of hm hl hS (hs.trans m1) (by omega)
  clear cA l2
  go_wp2_with fail
  refine cT.mono ?_
  rintro e w2 ⟨⟨r, rfl⟩, m2⟩
  obtain ⟨t1, ht1, hsz⟩ := ((hs.trans m1).trans m2).str hg d0
  have hsz2 : t1.size <= 4611826755915743232 := by omega
  have hfz : w2.frozen? ⟨g, o, none⟩ = false := (((hs.trans m1).trans m2).froz g _).trans ((hS g hg).2 _)
  have hlo := (hS g hg).1
  clear cT l3 d0 d2 d3 hsz
  go_wp2_with fail
  go_end0
  exact ⟨⟨_, rfl⟩, (m1.trans m2).trans (Sm.set hg hlo ht1 (.inr (.inl ⟨_, _, rfl, rfl, tld t1⟩)))⟩
theorem st_all : ∀ m, St m
  | 0 => by
    intro lo k g o S K w u t hg h4 hin
    obtain ⟨a, b, n, l⟩ := t
    rw [TBase.In] at hin
    exact hin.elim
  | m + 1 => tree_of (st_all m)
end Go.Proofs.YtaiackmmmlhgbaaGreat.ZSo
namespace Go.Proofs.YtaiackmmmlhgbaaGreat.ZLm
open Go.RowKit Go.ChangeShapes Go.WideShapes Go.ChangeAt Leb YRr
theorem two_cells (w : World) (j : Nat) (u : Value) (hj : (cellsL [173, 77])[j]? = some u) : (w.alloc (.cells #[.int .u8 173, .int .u8 77] 5)).cell? ((⟨w.heap.size, 0, none⟩ : Addr).add j) = some u := by
  have h : (w.alloc (.cells #[.int .u8 173, .int .u8 77] 5)).heap[w.heap.size]? = some (.cells (cellsL [173, 77]).toArray 5 (0, 0)) := heap_alloc_new w _
  rw [add_none, Nat.zero_add]
  exact cell_of h j u (by simpa using hj)
def Lent (w : World) (B g cap : Nat) (L : List UInt8) : Prop := Own w B (.slice (some ⟨g, 0, none⟩) (L.length + 2) cap) (L ++ [173, 77])
theorem Lent.keep {w w' : World} {B g cap : Nat} {L : List UInt8} (h : Lent w B g cap L) (hb : Below w.heap.size w w') : Lent w' B g cap L := by
  refine ⟨h.1, ?_⟩
  rcases h.2 with h | ⟨g', c, cur, h1, h2, h3, h4⟩
  · exact .inl h
  · exact .inr ⟨g', c, cur, h1, h2, (hb.block g' (Array.getElem?_eq_some_iff.1 h3).1).trans h3, h4⟩
theorem Lent.cell {w : World} {B g cap : Nat} {L : List UInt8} (h : Lent w B g cap L) (j : Nat) (hj : j < L.length + 2) : w.cell? ⟨g, j, none⟩ = some (.int .u8 ((L ++ [173, 77])[j]'(by simp; omega)).toNat) := by
  have hl : j < (L ++ [173, 77]).length := by simp; omega
  have := World.ownsRow.cells (g := g) h rfl j (.int .u8 (((L ++ [173, 77])[j]'hl).toNat : Int)) (by simp only [cellsL, List.getElem?_map]; rw [List.getElem?_eq_getElem hl]; rfl)
  rw [add_none, Nat.zero_add] at this
  exact this
theorem Lent.cap {w : World} {B g cap : Nat} {L : List UInt8} (h : Lent w B g cap L) : L.length + 2 <= cap /\ cap <= maxLen /\ g < w.heap.size /\ B <= g := by
  have hg := World.ownsRow.lt h g rfl
  obtain ⟨a, c, e, h1, h2, -⟩ := h.seen
  injection e with e1 e2 e3
  have hl : (L ++ [173, 77]).length = L.length + 2 := by simp
  rw [hl] at h1
  exact ⟨by omega, by omega, hg.2, hg.1⟩
theorem Lent.seen {w : World} {B g cap : Nat} {L : List UInt8} (h : Lent w B g cap L) : Seen w (.slice (some ⟨g, 0, none⟩) L.length cap) L := by
  obtain ⟨h1, h2, h3, -⟩ := h.cap
  refine ⟨_, cap, rfl, by omega, h2, (fun h => by cases h), fun g' o s e j hj => ?_⟩
  cases e
  refine ⟨rfl, ?_⟩
  rw [Nat.zero_add, h.cell j (by omega), List.getElem_append_left hj]
theorem lendB_c {w : World} {ba : Option Addr} {bc : Nat} {b : List UInt8} (h : Seen w (.slice ba b.length bc) b) (hl : b.length <= 140737488351232) :
    Calls prog 5 #[.slice ba b.length bc] w fun e w' => ∃ g cap, e = .returned (.slice (some ⟨g, 0, none⟩) b.length cap) /\ Lent w' w.heap.size g cap b /\ Below w.heap.size w w' := by
  obtain ⟨i0, hi, hz0, hz1, hz2⟩ := info_parts info5
  have cC := copy_c _ b w h (by omega)
  have HSL : Hid (b.length <= 140737488351232) := hl
  have hbc : b.length <= bc /\ bc <= maxLen := by obtain ⟨a, c, e, h1, h2, -⟩ := h; cases e; exact ⟨h1, h2⟩
  obtain ⟨hlc, hm⟩ := hbc
  clear h
  obtain ⟨N, hN⟩ : ∃ N, b.length = N := ⟨_, rfl⟩
  have HN : Hid (b.length = N) := hN
  rw [hN] at cC hl hlc ⊢
  go_enter func5, ntmps5
  go_wp2_with (first
    | (go_at_call 19; refine cC.mono ?_; rintro e w1 ⟨u, rfl, -, ho, hb⟩)
    | (at_builtin; refine wpList_append_own _ rfl _ _ 22 rfl w.heap.size 5 i0 (.int .u8 0) 1 1 underlying22 hi hz0 hz1 hz2 rfl (by decide) _ _ _ rfl (World.ownsRow.alloc ho _) ⟨w1.heap.size, 0, none⟩ 2 2 (cellsL [173, 77]) rfl rfl (two_cells _) (one_cells _) (by unfold maxLen; omega) (by omega) (by have := hb.size; simp; omega) ?_))
  intro v' w2 hown' hgrow hnn
  have hb3 := (hb.alloc hb.size (.cells #[.int .u8 173, .int .u8 77] 5)).grown hgrow (by have := hb.size; simp; omega) (fun k hk => (World.ownsRow.lt ho k hk).1)
  have ho2 : Own w2 w.heap.size v' (b ++ [173, 77]) := by
    unfold Own
    rw [cellsL_append, List.length_append, HN.out]
    exact hown'
  rcases hown'.2 with ⟨h0, _⟩ | ⟨g, cap2, cur, rfl, _, _, hn2, hm2, _⟩
  · exact absurd h0 hnn
  have HO2 : Hid (Own w2 w.heap.size (.slice (some ⟨g, 0, none⟩) (b.length + 2) cap2) (b ++ [173, 77]) /\ Below w.heap.size w w2) := ⟨by rw [HN.out]; exact ho2, hb3⟩
  clear hown' hgrow ho hb cC ho2 hb3
  try rw [hN]
  try rw [hN] at hn2
  go_wp2
  go_ret
  exact ⟨_, _, rfl, HO2.out.1, HO2.out.2⟩
theorem keptB_c {w : World} {B g cap bc : Nat} {ba : Option Addr} {b : List UInt8} (h : Lent w B g cap b) (hu : Seen w (.slice ba b.length bc) b) (hl : b.length <= 140737488351232) :
    Calls prog 10 #[.slice (some ⟨g, 0, none⟩) b.length cap, .slice ba b.length bc] w fun e w' => e = .returned (.bool true) /\ w' = w := by
  have c9 := same_c _ _ b w h.seen hu
  obtain ⟨h1, h2, h3, -⟩ := h.cap
  have c1 : w.cell? ⟨g, b.length, none⟩ = some (.int .u8 173) := by
    rw [h.cell b.length (by omega)]
    simp
  have c2 : w.cell? ⟨g, b.length + 1, none⟩ = some (.int .u8 77) := by
    rw [h.cell (b.length + 1) (by omega)]
    simp
  have hbc : b.length <= bc /\ bc <= maxLen := by obtain ⟨a, c, e, h1, h2, -⟩ := hu; cases e; exact ⟨h1, h2⟩
  obtain ⟨hlc, hm⟩ := hbc
  clear hu h
  generalize hN : b.length = N at *
  go_enter func10, ntmps10
  go_wp2_with (first | (go_at_call 33; refine c9.mono ?_; rintro e w' ⟨rfl, rfl⟩))
  go_ret
  exact ⟨rfl, rfl⟩
end Go.Proofs.YtaiackmmmlhgbaaGreat.ZLm
namespace Go.Proofs.YtaiackmmmlhgbaaGreat.ZSq
open Go.RowKit YPl YRr ZSm ZSo
open TBase (T Keep)
theorem spoilP_c {lo k P : Nat} {S : Nat -> Prop} {K w : World} {v0 v1 v2 v3 : Value} {x : Pg} (h : YRpf.HvP S K (.agg #[v0, v1, v2, v3]) x) (hb : w.heap[P]? = some (.cells #[v0, v1, v2, v3] 29 (0, 0))) (hP : ¬ S P) (hS : Sp lo S K) (hs : Sm lo S k K w) (hk : k + (x.t.length + nTL x.s) <= 4611686018427387904) :
    Calls prog 11 #[.pointer (some ⟨P, 0, none⟩)] w fun e w' => (∃ r, e = .returned r) /\ Sm lo S (x.t.length + nTL x.s) w w' := by
  obtain ⟨a, n1, c1, b, n2, c2, c, n3, c3, d, n4, c4, e, h1, h2, h3, h4⟩ := h
  cases e
  have HB : Hid (∀ W' : World, W'.heap[P]? = w.heap[P]? -> W'.cell? ⟨P, 0, none⟩ = some (.slice a n1 c1) /\ W'.cell? ⟨P, 1, none⟩ = some (.slice b n2 c2) /\ W'.cell? ⟨P, 2, none⟩ = some (.slice c n3 c3) /\ W'.cell? ⟨P, 3, none⟩ = some (.slice d n4 c4)) := fun W' hw => TBase.four_box (hw.trans hb)
  have e2 : n2 = x.c.length := by obtain ⟨_, _, e, _⟩ := h2; cases e; rfl
  have c47 : x.c.length <= 140737488351232 := by obtain ⟨_, _, _, _, _, h, _⟩ := h2; exact h
  subst e2
  obtain ⟨p0, -, -, -⟩ := HB.out w rfl
  have cT := spoilT_c h1 hS hs (by omega)
  go_enter func11, ntmps11
  go_wp2_with fail
  refine cT.mono ?_
  rintro e w1 ⟨⟨r, rfl⟩, m1⟩
  have HM1 : Hid (Sm lo S x.t.length w w1) := m1
  clear cT p0 m1 hb
  go_wp2_with fail
  go_loopw [2] (fun i wr => ∃ q : Nat, q <= x.c.length /\ i = .int .i64 q /\ Sm lo S x.t.length w wr) (fun i _ => x.c.length - (intOf i).toNat)
  case atStart => exact ⟨0, by omega, rfl, HM1.out⟩
  case round =>
    obtain ⟨q, hq, rfl, hm⟩ := hrel
    obtain ⟨-, p1, p2, -⟩ := HB.out wr (hm.out P hP)
    have HM : Hid (Sm lo S x.t.length w wr) := hm
    by_cases hlt : q < x.c.length
    · obtain ⟨g, o, cap, e, hg, hc⟩ := rrs_at h2 hlt
      cases e
      obtain ⟨u, hu, hr⟩ := hc
      obtain ⟨ua, uc, rfl, -⟩ := rrs_sl hr
      rw [Nat.mul_one] at hu
      have hu' := (hs.trans hm).sl hg hu
      have cN := spoilN_c hr hS (hs.trans hm)
      clear hu hm p2
      go_wp2_with fail
      refine cN.mono ?_
      rintro e w2 ⟨⟨r, rfl⟩, m2⟩
      clear cN
      go_wp2_with fail
      go_roundw
      case rel => exact ⟨q + 1, by omega, by go_num, HM.out.trans (k' := 0) m2⟩
      case measure => simp only [intOf]; omega
    · have hlt' : decide ((q : Int) < (x.c.length : Int)) = false := by simp; omega
      have cS := trees_of (st_all 65) h3 hS (hs.trans hm) (by omega)
      clear hm
      go_wp2_with fail
      refine cS.mono ?_
      rintro e w2 ⟨⟨r, rfl⟩, m2⟩
      have HM2 : Hid (Sm lo S (x.t.length + nTL x.s) w w2) := HM.out.trans m2
      obtain ⟨-, -, -, p3⟩ := HB.out w2 (HM2.out.out P hP)
      have cB := spoilB_c h4 hS (hs.trans HM2.out)
      clear cS p1 p2 m2
      go_wp2_with fail
      refine cB.mono ?_
      rintro e w3 ⟨⟨r, rfl⟩, m3⟩
      clear cB p3
      go_wp2_with fail
      go_end0
      exact ⟨⟨_, rfl⟩, HM2.out.trans (k' := 0) m3⟩
end Go.Proofs.YtaiackmmmlhgbaaGreat.ZSq

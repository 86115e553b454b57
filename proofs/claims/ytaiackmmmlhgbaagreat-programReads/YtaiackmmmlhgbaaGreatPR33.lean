import Derived.Test.YtaiackmmmlhgbaaGreatPR25
import Derived.Test.YtaiackmmmlhgbaaGreatPR26
import Derived.Test.YtaiackmmmlhgbaaGreatPR27
import Derived.Test.YtaiackmmmlhgbaaGreatPR29
import Derived.Test.YtaiackmmmlhgbaaGreatPR31
import Derived.Test.YtaiackmmmlhgbaaGreatPR32
open Go.Proofs.Tryz
set_option linter.unusedVariables false
set_option maxRecDepth 20000
set_option maxHeartbeats 6400000
namespace Go.Proofs.YtaiackmmmlhgbaaGreat.WPr
open Go.RowKit Leb YPl YRd YRr
open TBase (T Keep heap_alloc_new frozen_box)
def dx (b : By) : Pg := match dec b with
  | .ok x => x
  | .error _ => ⟨[], [], [], []⟩
def dz (b : By) : Nat := match dec b with
  | .ok _ => 0
  | .error (z, _) => z
def dc (b : By) : Nat := match dec b with
  | .ok _ => 0
  | .error (_, c) => c
theorem dx_nt (b : By) : (dx b).t.length + ZSo.nTL (dx b).s <= 100000000000 := by
  unfold dx
  cases h : dec b with
  | ok x => exact ZNt.dec_nt h
  | error z => show 0 + ZSo.nTL [] <= _; rw [ZSo.nTL]; omega
theorem nil_f {S : Nat -> Prop} {w : World} : YRpf.HvP S w (.agg #[.slice none 0 0, .slice none 0 0, .slice none 0 0, .slice none 0 0]) ⟨[], [], [], []⟩ := ⟨none, 0, 0, none, 0, 0, none, 0, 0, none, 0, 0, rfl, ⟨none, 0, rfl, by simp, by omega, by simp, fun _ => rfl, .inl rfl⟩, ⟨none, 0, rfl, by simp, by omega, by simp, fun _ => rfl, .inl rfl⟩, ⟨none, 0, rfl, by simp, by omega, by simp, by simp, .inl ⟨rfl, rfl⟩⟩, ⟨none, 0, rfl, by simp, by omega, by simp, fun _ => rfl, .inl rfl⟩⟩
theorem nil_r {S : Nat -> Prop} {w : World} : YRp.HvP S w (.agg #[.slice none 0 0, .slice none 0 0, .slice none 0 0, .slice none 0 0]) ⟨[], [], [], []⟩ := ⟨none, 0, 0, none, 0, 0, none, 0, 0, none, 0, 0, rfl, ⟨none, 0, rfl, by simp, by omega, by simp, fun _ => rfl, .inl rfl⟩, ⟨none, 0, rfl, by simp, by omega, by simp, fun _ => rfl, .inl rfl⟩, ⟨none, 0, rfl, by simp, by omega, by simp, by simp, .inl ⟨rfl, rfl⟩⟩, ⟨none, 0, rfl, by simp, by omega, by simp, fun _ => rfl, .inl rfl⟩⟩
theorem dec_f {w : World} {ia : Option Addr} {n cap : Nat} {b : By} (hS : Seen w (.slice ia n cap) b) (hl : ∀ g, ia = some g -> g.block < w.heap.size) :
    Calls prog 6 #[.slice ia n cap] w fun e w' => Below w.heap.size w w' /\ ∃ (a1 : Option Addr) (n1 c1 : Nat) (a2 : Option Addr) (n2 c2 : Nat) (a3 : Option Addr) (n3 c3 : Nat) (a4 : Option Addr) (n4 c4 : Nat), e = .returned (.tuple #[.agg #[.slice a1 n1 c1, .slice a2 n2 c2, .slice a3 n3 c3, .slice a4 n4 c4], .int .i64 (dz b), .int .i64 (dc b)]) /\ YRpf.HvP (YRsf.Bz w' w.heap.size) w' (.agg #[.slice a1 n1 c1, .slice a2 n2 c2, .slice a3 n3 c3, .slice a4 n4 c4]) (dx b) := by
  refine (YDcf.decode_c hS hl).mono ?_
  rintro e w' ⟨hb, hA⟩
  unfold dx dz dc
  cases hd : dec b with
  | error t =>
    obtain ⟨z, c⟩ := t
    rw [hd] at hA
    obtain rfl := hA
    exact ⟨hb, none, 0, 0, none, 0, 0, none, 0, 0, none, 0, 0, rfl, nil_f⟩
  | ok x =>
    rw [hd] at hA
    obtain ⟨v, rfl, hv⟩ := hA
    have hv0 := hv
    obtain ⟨a, n1, c1, b1, n2, c2, c, n3, c3, d, n4, c4, rfl, -⟩ := hv0
    exact ⟨hb, a, n1, c1, b1, n2, c2, c, n3, c3, d, n4, c4, rfl, hv⟩
theorem dec_r {w : World} {ia : Option Addr} {n cap : Nat} {b : By} (hS : Seen w (.slice ia n cap) b) (hl : ∀ g, ia = some g -> g.block < w.heap.size) :
    Calls prog 7 #[.slice ia n cap] w fun e w' => Below w.heap.size w w' /\ ∃ (a1 : Option Addr) (n1 c1 : Nat) (a2 : Option Addr) (n2 c2 : Nat) (a3 : Option Addr) (n3 c3 : Nat) (a4 : Option Addr) (n4 c4 : Nat), e = .returned (.tuple #[.agg #[.slice a1 n1 c1, .slice a2 n2 c2, .slice a3 n3 c3, .slice a4 n4 c4], .int .i64 (dz b), .int .i64 (dc b)]) /\ YRp.HvP (fun g => w.heap.size <= g /\ g < w'.heap.size) w' (.agg #[.slice a1 n1 c1, .slice a2 n2 c2, .slice a3 n3 c3, .slice a4 n4 c4]) (dx b) := by
  refine (ZQj.decode_d hS hl).mono ?_
  rintro e w' ⟨hb, hA⟩
  unfold dx dz dc
  cases hd : dec b with
  | error t =>
    obtain ⟨z, c⟩ := t
    rw [hd] at hA
    obtain rfl := hA
    exact ⟨hb, none, 0, 0, none, 0, 0, none, 0, 0, none, 0, 0, rfl, nil_r⟩
  | ok x =>
    rw [hd] at hA
    obtain ⟨v, rfl, hv⟩ := hA
    have hv0 := hv
    obtain ⟨a, n1, c1, b1, n2, c2, c, n3, c3, d, n4, c4, rfl, -⟩ := hv0
    exact ⟨hb, a, n1, c1, b1, n2, c2, c, n3, c3, d, n4, c4, rfl, hv⟩
theorem keep_of {S : Nat -> Prop} {a b : World} {K : Nat} (h : Below K a b) (hS : ∀ g, S g -> g < K) : Keep S a b := fun g hg _ => h.block g (hS g hg)
theorem seen_w {w w' : World} {v : Value} {L : By} (h : Seen w v L) (hb : Below w.heap.size w w') : Seen w' v L := by
  obtain ⟨a, cap, rfl, hlc, hm, hnil, hcell⟩ := h
  refine ⟨a, cap, rfl, hlc, hm, hnil, fun g o s e j hj => ?_⟩
  obtain ⟨hs, hc⟩ := hcell g o s e j hj
  exact ⟨hs, (hb.cell (block_lt_of_cell hc)).trans hc⟩
theorem walk {w : World} {ba : Option Addr} {bc : Nat} {b : By} (hb : Seen w (.slice ba b.length bc) b) (hbl : ∀ g, ba = some g -> g.block < w.heap.size) (hl : b.length <= 140737488351232) :
    Calls prog 3 #[.slice ba b.length bc] w fun e w' => e = .returned (.bool true) /\ Below w.heap.size w w' := by
  have cN : ∀ (x : Int) (W : World), Calls prog 8 #[.int .i64 x] W fun e w' => e = .returned (.int .i64 x) /\ W = w' := fun x W => (num_c x W).mono fun e w' h => ⟨h.1, h.2.symm⟩
  have HB : Hid (∀ W, Below w.heap.size w W -> Seen W (.slice ba b.length bc) b /\ ∀ g, ba = some g -> g.block < W.heap.size) := fun W hW => ⟨seen_w hb hW, fun g e => Nat.lt_of_lt_of_le (hbl g e) hW.size⟩
  have HL : Hid (b.length <= 140737488351232) := hl
  have cL := ZLm.lendB_c hb hl
  clear hb hbl hl
  go_enter func3, ntmps3
  go_wp2_with fail
  refine cL.mono ?_
  rintro e W1 ⟨g, cap, rfl, hle, b1⟩
  have H1 : Hid (Below w.heap.size w W1 /\ ZLm.Lent W1 w.heap.size g cap b) := ⟨b1, hle⟩
  have cP := dec_f hle.seen (fun g' e => by cases e; exact hle.cap.2.2.1)
  clear cL b1 hle
  go_wp2_with fail
  refine cP.mono ?_
  rintro e W2 ⟨b2, p1, pn1, pc1, p2, pn2, pc2, p3, pn3, pc3, p4, pn4, pc4, rfl, hvp⟩
  obtain ⟨Z, hZ⟩ : ∃ Z, dz b = Z := ⟨_, rfl⟩
  obtain ⟨C, hC⟩ : ∃ C, dc b = C := ⟨_, rfl⟩
  try rw [hZ, hC]
  obtain ⟨BP, hBP⟩ : ∃ B, W2.heap.size = B := ⟨_, rfl⟩
  obtain ⟨Zp, hZp⟩ : ∃ W, W2.alloc (.cells #[.slice none 0 0, .slice none 0 0, .slice none 0 0, .slice none 0 0] 29) = W := ⟨_, rfl⟩
  obtain ⟨V2, hV2⟩ : ∃ W, W2.alloc (.cells #[.slice p1 pn1 pc1, .slice p2 pn2 pc2, .slice p3 pn3 pc3, .slice p4 pn4 pc4] 29) = W := ⟨_, rfl⟩
  have nZp : Zp.heap[BP]? = some (.cells #[.slice none 0 0, .slice none 0 0, .slice none 0 0, .slice none 0 0] 29 (0, 0)) := by rw [<- hZp, <- hBP]; exact heap_alloc_new W2 _
  have hsp : (((Zp.setCell ⟨BP, 0, none⟩ (.slice p1 pn1 pc1)).setCell ⟨BP, 1, none⟩ (.slice p2 pn2 pc2)).setCell ⟨BP, 2, none⟩ (.slice p3 pn3 pc3)).setCell ⟨BP, 3, none⟩ (.slice p4 pn4 pc4) = V2 := by rw [<- hZp, <- hV2, <- hBP]; exact TPure.box4 _ _ _ _ _ _ _ _ _ _
  have nV2 : V2.heap[BP]? = some (.cells #[.slice p1 pn1 pc1, .slice p2 pn2 pc2, .slice p3 pn3 pc3, .slice p4 pn4 pc4] 29 (0, 0)) := by rw [<- hV2, <- hBP]; exact heap_alloc_new W2 _
  have bV2 : Below W2.heap.size W2 V2 := by rw [<- hV2]; exact (Below.refl _ W2).alloc (Nat.le_refl _) _
  have zp0 := cell_of nZp 0 _ rfl
  have fp0 := frozen_box nZp 0
  have zp1 := cell_of nZp 1 _ rfl
  have fp1 := frozen_box nZp 1
  have zp2 := cell_of nZp 2 _ rfl
  have fp2 := frozen_box nZp 2
  have zp3 := cell_of nZp 3 _ rfl
  have fp3 := frozen_box nZp 3
  have sV2 : V2.heap.size = BP + 1 := by rw [<- hV2, <- hBP]; simp
  have HNp : Hid (V2.heap[BP]? = some (.cells #[.slice p1 pn1 pc1, .slice p2 pn2 pc2, .slice p3 pn3 pc3, .slice p4 pn4 pc4] 29 (0, 0)) /\ W2.heap.size = BP) := ⟨nV2, hBP⟩
  clear nZp hV2 nV2
  have H2 : Hid (Below W1.heap.size W1 V2 /\ YRpf.HvP (YRsf.Bz W2 W1.heap.size) W2 (.agg #[.slice p1 pn1 pc1, .slice p2 pn2 pc2, .slice p3 pn3 pc3, .slice p4 pn4 pc4]) (dx b) /\ Below W2.heap.size W2 V2 /\ V2.heap.size = BP + 1 /\ W1.heap.size <= W2.heap.size) := ⟨b2.trans (bV2.mono b2.size), hvp, bV2, sV2, b2.size⟩
  have cQ := dec_f (H1.out.2.keep H2.out.1).seen (fun g' e => by cases e; exact (H1.out.2.keep H2.out.1).cap.2.2.1)
  rw [hZ, hC] at cQ
  clear cP b2 hvp bV2 sV2
  go_wp2_with fail
  try rw [hsp]
  refine cQ.mono ?_
  rintro e W3 ⟨b3, q1, qn1, qc1, q2, qn2, qc2, q3, qn3, qc3, q4, qn4, qc4, rfl, hvq⟩
  clear zp0 zp1 zp2 zp3 fp0 fp1 fp2 fp3 hsp hBP
  obtain ⟨BQ, hBQ⟩ : ∃ B, W3.heap.size = B := ⟨_, rfl⟩
  obtain ⟨Zq, hZq⟩ : ∃ W, W3.alloc (.cells #[.slice none 0 0, .slice none 0 0, .slice none 0 0, .slice none 0 0] 29) = W := ⟨_, rfl⟩
  obtain ⟨V3, hV3⟩ : ∃ W, W3.alloc (.cells #[.slice q1 qn1 qc1, .slice q2 qn2 qc2, .slice q3 qn3 qc3, .slice q4 qn4 qc4] 29) = W := ⟨_, rfl⟩
  have nZq : Zq.heap[BQ]? = some (.cells #[.slice none 0 0, .slice none 0 0, .slice none 0 0, .slice none 0 0] 29 (0, 0)) := by rw [<- hZq, <- hBQ]; exact heap_alloc_new W3 _
  have hsq : (((Zq.setCell ⟨BQ, 0, none⟩ (.slice q1 qn1 qc1)).setCell ⟨BQ, 1, none⟩ (.slice q2 qn2 qc2)).setCell ⟨BQ, 2, none⟩ (.slice q3 qn3 qc3)).setCell ⟨BQ, 3, none⟩ (.slice q4 qn4 qc4) = V3 := by rw [<- hZq, <- hV3, <- hBQ]; exact TPure.box4 _ _ _ _ _ _ _ _ _ _
  have nV3 : V3.heap[BQ]? = some (.cells #[.slice q1 qn1 qc1, .slice q2 qn2 qc2, .slice q3 qn3 qc3, .slice q4 qn4 qc4] 29 (0, 0)) := by rw [<- hV3, <- hBQ]; exact heap_alloc_new W3 _
  have bV3 : Below W3.heap.size W3 V3 := by rw [<- hV3]; exact (Below.refl _ W3).alloc (Nat.le_refl _) _
  have zq0 := cell_of nZq 0 _ rfl
  have fq0 := frozen_box nZq 0
  have zq1 := cell_of nZq 1 _ rfl
  have fq1 := frozen_box nZq 1
  have zq2 := cell_of nZq 2 _ rfl
  have fq2 := frozen_box nZq 2
  have zq3 := cell_of nZq 3 _ rfl
  have fq3 := frozen_box nZq 3
  have sV3 : V3.heap.size = BQ + 1 := by rw [<- hV3, <- hBQ]; simp
  have HNq : Hid (V3.heap[BQ]? = some (.cells #[.slice q1 qn1 qc1, .slice q2 qn2 qc2, .slice q3 qn3 qc3, .slice q4 qn4 qc4] 29 (0, 0)) /\ W3.heap.size = BQ) := ⟨nV3, hBQ⟩
  clear nZq hV3 nV3
  have H3 : Hid (Below V2.heap.size V2 V3 /\ YRpf.HvP (YRsf.Bz W3 V2.heap.size) W3 (.agg #[.slice q1 qn1 qc1, .slice q2 qn2 qc2, .slice q3 qn3 qc3, .slice q4 qn4 qc4]) (dx b) /\ Below W3.heap.size W3 V3 /\ V3.heap.size = BQ + 1 /\ V2.heap.size <= W3.heap.size) := ⟨b3.trans (bV3.mono b3.size), hvq, bV3, sV3, b3.size⟩
  have HB3 : Hid (Below w.heap.size w V3) := (H1.out.1.trans (H2.out.1.mono H1.out.1.size)).trans (H3.out.1.mono (Nat.le_trans H1.out.1.size H2.out.1.size))
  have cU := dec_r (HB.out _ HB3.out).1 (HB.out _ HB3.out).2
  rw [hZ, hC] at cU
  clear cQ b3 hvq bV3 sV3
  go_wp2_with fail
  try rw [hsq]
  refine cU.mono ?_
  rintro e W4 ⟨b4, u1, un1, uc1, u2, un2, uc2, u3, un3, uc3, u4, un4, uc4, rfl, hvu⟩
  clear zq0 zq1 zq2 zq3 fq0 fq1 fq2 fq3 hsq hBQ
  obtain ⟨BU, hBU⟩ : ∃ B, W4.heap.size = B := ⟨_, rfl⟩
  obtain ⟨Zu, hZu⟩ : ∃ W, W4.alloc (.cells #[.slice none 0 0, .slice none 0 0, .slice none 0 0, .slice none 0 0] 29) = W := ⟨_, rfl⟩
  obtain ⟨V4, hV4⟩ : ∃ W, W4.alloc (.cells #[.slice u1 un1 uc1, .slice u2 un2 uc2, .slice u3 un3 uc3, .slice u4 un4 uc4] 29) = W := ⟨_, rfl⟩
  have nZu : Zu.heap[BU]? = some (.cells #[.slice none 0 0, .slice none 0 0, .slice none 0 0, .slice none 0 0] 29 (0, 0)) := by rw [<- hZu, <- hBU]; exact heap_alloc_new W4 _
  have hsu : (((Zu.setCell ⟨BU, 0, none⟩ (.slice u1 un1 uc1)).setCell ⟨BU, 1, none⟩ (.slice u2 un2 uc2)).setCell ⟨BU, 2, none⟩ (.slice u3 un3 uc3)).setCell ⟨BU, 3, none⟩ (.slice u4 un4 uc4) = V4 := by rw [<- hZu, <- hV4, <- hBU]; exact TPure.box4 _ _ _ _ _ _ _ _ _ _
  have nV4 : V4.heap[BU]? = some (.cells #[.slice u1 un1 uc1, .slice u2 un2 uc2, .slice u3 un3 uc3, .slice u4 un4 uc4] 29 (0, 0)) := by rw [<- hV4, <- hBU]; exact heap_alloc_new W4 _
  have bV4 : Below W4.heap.size W4 V4 := by rw [<- hV4]; exact (Below.refl _ W4).alloc (Nat.le_refl _) _
  have zu0 := cell_of nZu 0 _ rfl
  have fu0 := frozen_box nZu 0
  have zu1 := cell_of nZu 1 _ rfl
  have fu1 := frozen_box nZu 1
  have zu2 := cell_of nZu 2 _ rfl
  have fu2 := frozen_box nZu 2
  have zu3 := cell_of nZu 3 _ rfl
  have fu3 := frozen_box nZu 3
  have sV4 : V4.heap.size = BU + 1 := by rw [<- hV4, <- hBU]; simp
  have HNu : Hid (V4.heap[BU]? = some (.cells #[.slice u1 un1 uc1, .slice u2 un2 uc2, .slice u3 un3 uc3, .slice u4 un4 uc4] 29 (0, 0)) /\ W4.heap.size = BU) := ⟨nV4, hBU⟩
  clear nZu hV4 nV4
  have H4 : Hid (Below V3.heap.size V3 V4 /\ YRp.HvP (fun g => V3.heap.size <= g /\ g < W4.heap.size) W4 (.agg #[.slice u1 un1 uc1, .slice u2 un2 uc2, .slice u3 un3 uc3, .slice u4 un4 uc4]) (dx b) /\ Below W4.heap.size W4 V4 /\ V4.heap.size = BU + 1 /\ V3.heap.size <= W4.heap.size) := ⟨b4.trans (bV4.mono b4.size), hvu, bV4, sV4, b4.size⟩
  have L2 : Hid (W2.heap.size = BP /\ W3.heap.size = BQ /\ W4.heap.size = BU /\ V2.heap.size = BP + 1 /\ V3.heap.size = BQ + 1 /\ V4.heap.size = BU + 1 /\ BP + 1 <= BQ /\ BQ + 1 <= BU /\ W1.heap.size <= BP) := by
    have h1 := H2.out.2.2.2; have h2 := H3.out.2.2.2; have h3 := H4.out.2.2.2
    have n1 := HNp.out.2; have n2 := HNq.out.2; have n3 := HNu.out.2
    exact ⟨by omega, by omega, by omega, by omega, by omega, by omega, by omega, by omega, by omega⟩
  have hp4 : V4.heap[BP]? = some (.cells #[.slice p1 pn1 pc1, .slice p2 pn2 pc2, .slice p3 pn3 pc3, .slice p4 pn4 pc4] 29 (0, 0)) := by
    have h := L2.out
    exact (H4.out.1.block BP (by omega)).trans ((H3.out.1.block BP (by omega)).trans HNp.out.1)
  have hq4 : V4.heap[BQ]? = some (.cells #[.slice q1 qn1 qc1, .slice q2 qn2 qc2, .slice q3 qn3 qc3, .slice q4 qn4 qc4] 29 (0, 0)) := by
    have h := L2.out
    exact (H4.out.1.block BQ (by omega)).trans HNq.out.1
  have x0 := cell_of hp4 0 _ rfl
  have x1 := cell_of hp4 1 _ rfl
  have x2 := cell_of hp4 2 _ rfl
  have x3 := cell_of hp4 3 _ rfl
  have y0 := cell_of HNu.out.1 0 _ rfl
  have y1 := cell_of HNu.out.1 1 _ rfl
  have y2 := cell_of HNu.out.1 2 _ rfl
  have y3 := cell_of HNu.out.1 3 _ rfl
  have HP4 : Hid (V4.heap[BP]? = some (.cells #[.slice p1 pn1 pc1, .slice p2 pn2 pc2, .slice p3 pn3 pc3, .slice p4 pn4 pc4] 29 (0, 0)) /\ V4.heap[BQ]? = some (.cells #[.slice q1 qn1 qc1, .slice q2 qn2 qc2, .slice q3 qn3 qc3, .slice q4 qn4 qc4] 29 (0, 0))) := ⟨hp4, hq4⟩
  have HK2 : Hid (Below W2.heap.size W2 V4) := H2.out.2.2.1.trans ((H3.out.1.mono (by have := L2.out; omega)).trans (H4.out.1.mono (by have := L2.out; omega)))
  have HK3 : Hid (Below W3.heap.size W3 V4) := H3.out.2.2.1.trans (H4.out.1.mono (by have := L2.out; omega))
  have ip : YEn.InPg V4.heap.size 65 V4 (.agg #[.slice p1 pn1 pc1, .slice p2 pn2 pc2, .slice p3 pn3 pc3, .slice p4 pn4 pc4]) (dx b) := YRpf.HvP.pg (YRpf.HvP.keep (keep_of HK2.out (fun g h => h.at'.2)) (fun g h => h) H2.out.2.1) (fun g h => by have := h.at'.2; have := L2.out; omega)
  have iu : YEn.InPg V4.heap.size 65 V4 (.agg #[.slice u1 un1 uc1, .slice u2 un2 uc2, .slice u3 un3 uc3, .slice u4 un4 uc4]) (dx b) := YRp.HvP.pg (YRp.HvP.keep (keep_of H4.out.2.2.1 (fun g h => h.2)) (fun g h => h) H4.out.2.1) (fun g h => by have := h.2; have := L2.out; omega)
  have cS := YSt.same_pg ip iu (Nat.le_refl _)
  clear cU b4 hvu bV4 sV4 hp4 hq4 ip iu
  go_upto_region 5 with fail
  try rw [hsu]
  clear zu0 zu1 zu2 zu3 fu0 fu1 fu2 fu3 hsu hBU
  go_wp2_with fail
  refine (cN _ _).mono ?_
  rintro e w9 ⟨rfl, rfl⟩
  go_wp2_with fail
  refine (cN _ _).mono ?_
  rintro e w9 ⟨rfl, rfl⟩
  go_wp2_with fail
  refine cS.mono ?_
  rintro e W5 ⟨rfl, b5⟩
  have hw15 : Below W1.heap.size W1 W5 := by
    have h := L2.out
    have h0 := H2.out.2.2.2.2
    exact H2.out.1.trans ((H3.out.1.mono (by omega)).trans ((H4.out.1.mono (by omega)).trans (b5.mono (by omega))))
  have HW15 : Hid (Below W1.heap.size W1 W5 /\ Below V4.heap.size V4 W5) := ⟨hw15, b5⟩
  have cK := ZLm.keptB_c (H1.out.2.keep hw15) (HB.out W5 (H1.out.1.trans (hw15.mono H1.out.1.size))).1 HL.out
  clear cS b5 hw15 x0 x1 x2 x3 y0 y1 y2 y3
  go_wp2_with fail
  refine cK.mono ?_
  rintro e w9 ⟨rfl, rfl⟩
  have k25 : Below W2.heap.size W2 w9 := HK2.out.trans (HW15.out.2.mono (by have := L2.out; omega))
  have hp5 : w9.heap[BP]? = some (.cells #[.slice p1 pn1 pc1, .slice p2 pn2 pc2, .slice p3 pn3 pc3, .slice p4 pn4 pc4] 29 (0, 0)) := (HW15.out.2.block BP (by have := L2.out; omega)).trans HP4.out.1
  have hq5 : w9.heap[BQ]? = some (.cells #[.slice q1 qn1 qc1, .slice q2 qn2 qc2, .slice q3 qn3 qc3, .slice q4 qn4 qc4] 29 (0, 0)) := (HW15.out.2.block BQ (by have := L2.out; omega)).trans HP4.out.2
  have hu5 : w9.heap[BU]? = some (.cells #[.slice u1 un1 uc1, .slice u2 un2 uc2, .slice u3 un3 uc3, .slice u4 un4 uc4] 29 (0, 0)) := (HW15.out.2.block BU (by have := L2.out; omega)).trans HNu.out.1
  have hS5 : ZSm.Sp W1.heap.size (YRsf.Bz W2 W1.heap.size) w9 := fun g h => ⟨h.at'.1, h.nf.keep (k25.block g h.at'.2)⟩
  have cX := ZSq.spoilP_c (lo := W1.heap.size) (k := 0) (P := BP) (YRpf.HvP.keep (keep_of k25 (fun g h => h.at'.2)) (fun g h => h) H2.out.2.1) hp5 (fun h => by have := h.at'.2; have := L2.out; omega) hS5 (ZSm.Sm.refl) (by have := dx_nt b; omega)
  have HQ5 : Hid (w9.heap[BQ]? = some (.cells #[.slice q1 qn1 qc1, .slice q2 qn2 qc2, .slice q3 qn3 qc3, .slice q4 qn4 qc4] 29 (0, 0)) /\ w9.heap[BU]? = some (.cells #[.slice u1 un1 uc1, .slice u2 un2 uc2, .slice u3 un3 uc3, .slice u4 un4 uc4] 29 (0, 0)) /\ Below W3.heap.size W3 w9 /\ Below W4.heap.size W4 w9 /\ V4.heap.size <= w9.heap.size) := ⟨hq5, hu5, HK3.out.trans (HW15.out.2.mono (by have := L2.out; omega)), H4.out.2.2.1.trans (HW15.out.2.mono (by have := L2.out; omega)), HW15.out.2.size⟩
  clear cK k25 hp5 hq5 hu5 hS5
  go_wp2_with fail
  refine cX.mono ?_
  rintro e W6 ⟨⟨r, rfl⟩, hsm⟩
  have hout : ∀ g, BP <= g -> W6.heap[g]? = w9.heap[g]? := fun g hg => hsm.out g (fun h => by have := h.at'.2; have := L2.out; omega)
  have iq : YEn.InPg W6.heap.size 65 W6 (.agg #[.slice q1 qn1 qc1, .slice q2 qn2 qc2, .slice q3 qn3 qc3, .slice q4 qn4 qc4]) (dx b) := YRpf.HvP.pg (YRpf.HvP.keep (S := YRsf.Bz W3 V2.heap.size) (fun g h _ => (hout g (by have := h.at'.1; have := L2.out; omega)).trans (HQ5.out.2.2.1.block g h.at'.2)) (fun g h => h) H3.out.2.1) (fun g h => by have := h.at'.2; have := L2.out; have := HQ5.out.2.2.2.2; have := hsm.size; omega)
  have iu : YEn.InPg W6.heap.size 65 W6 (.agg #[.slice u1 un1 uc1, .slice u2 un2 uc2, .slice u3 un3 uc3, .slice u4 un4 uc4]) (dx b) := YRp.HvP.pg (YRp.HvP.keep (S := fun g => V3.heap.size <= g /\ g < W4.heap.size) (fun g h _ => (hout g (by have := h.1; have := L2.out; omega)).trans (HQ5.out.2.2.2.1.block g h.2)) (fun g h => h) H4.out.2.1) (fun g h => by have := h.2; have := L2.out; have := HQ5.out.2.2.2.2; have := hsm.size; omega)
  have cS := YSt.same_pg iq iu (Nat.le_refl _)
  have hq6 := (hout BQ (by have := L2.out; omega)).trans HQ5.out.1
  have hu6 := (hout BU (by have := L2.out; omega)).trans HQ5.out.2.1
  have x0 := cell_of hq6 0 _ rfl
  have x1 := cell_of hq6 1 _ rfl
  have x2 := cell_of hq6 2 _ rfl
  have x3 := cell_of hq6 3 _ rfl
  have y0 := cell_of hu6 0 _ rfl
  have y1 := cell_of hu6 1 _ rfl
  have y2 := cell_of hu6 2 _ rfl
  have y3 := cell_of hu6 3 _ rfl
  have HW6 : Hid (Below w.heap.size w W6) := (H1.out.1.trans (HW15.out.1.mono H1.out.1.size)).trans (hsm.below.mono H1.out.1.size)
  clear cX hout iq iu hq6 hu6 hsm
  go_wp2_with fail
  refine cS.mono ?_
  rintro e W7 ⟨rfl, b7⟩
  have HW7 : Hid (Below w.heap.size w W7) := HW6.out.trans (b7.mono HW6.out.size)
  clear cS b7 x0 x1 x2 x3 y0 y1 y2 y3
  go_wp2_with fail
  refine (YAw.awake_c W7).mono ?_
  rintro e W8 ⟨rfl, b8⟩
  have HW8 : Hid (Below w.heap.size w W8) := HW7.out.trans (b8.mono HW7.out.size)
  clear b8
  go_wp2_with fail
  go_ret
  exact ⟨rfl, HW8.out⟩
end Go.Proofs.YtaiackmmmlhgbaaGreat.WPr

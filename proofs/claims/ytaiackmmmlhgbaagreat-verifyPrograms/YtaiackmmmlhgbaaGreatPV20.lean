import Derived.Test.YtaiackmmmlhgbaaGreatPV17
import Derived.Test.YtaiackmmmlhgbaaGreatPV19
open Go.Proofs.Tryz
set_option linter.unusedVariables false
set_option maxRecDepth 20000
set_option maxHeartbeats 6400000
namespace Go.Proofs.YtaiackmmmlhgbaaGreat.BNp
open Tak
open Go.RowKit BPl YRr YRs BBx BIx BIn BHm BPs BFx
open BSf (hid Lo need_c inl_rrs)
open YPl (Oq Bk Pg)
open YEn (InPg)
open TBase (T Keep InL heap_alloc_new)
open CPu (Ins)
open CBx (w64)
theorem infoH : (prog.info? 96).map (fun i => (i.zero, i.size, i.bytes)) = some (some (.agg #[.bool false, .bool false, .int .i64 0, .int .i64 0, .int .i64 0]), 5, 32) := by kernel_rfl
def mkh (n : Nat) : Array Value := madeCells (Value.agg #[.bool false, .bool false, .int .i64 0, .int .i64 0, .int .i64 0]).cells (n * 5)
theorem mkh_eq (n : Nat) : mkh n = (hcs (List.replicate n ar0)).toArray := by
  apply Array.ext_getElem?
  intro i
  by_cases hi : i < n * 5
  · have hq : i / 5 < (List.replicate n ar0).length := by rw [List.length_replicate]; omega
    have e := hcs_at (List.replicate n ar0) (i / 5) (i % 5) hq (by omega)
    have ei : i / 5 * 5 + i % 5 = i := by omega
    rw [ei, List.getElem_replicate] at e
    have e2 : (hcs (List.replicate n ar0)).toArray[i]? = (hc ar0)[i % 5]? := by simpa using e
    rw [e2]
    unfold mkh madeCells
    rw [Array.getElem?_map, Array.getElem?_range]
    simp only [hi, if_true, Option.map_some]
    rw [show (Value.agg #[.bool false, .bool false, .int .i64 0, .int .i64 0, .int .i64 0]).cells.size = 5 from rfl]
    have h5 : i % 5 < 5 := by omega
    match i % 5, h5 with
    | 0, _ | 1, _ | 2, _ | 3, _ | 4, _ => rfl
  · have h1 : (mkh n).size = n * 5 := size_madeCells _ _
    have h2 : (hcs (List.replicate n ar0)).toArray.size = n * 5 := by simp [hcs_len]
    rw [Array.getElem?_eq_none (by omega), Array.getElem?_eq_none (by omega)]
theorem make_h {n : Nat} (h2 : n <= 8192) (w : World) : (Instr.makeSlice 97 (.int .i64 n) (.int .i64 n)).run prog w = .ok (.slice (some ⟨w.heap.size, 0, none⟩) n n) (w.alloc (.cells (mkh n) 96)) := by
  obtain ⟨i0, hi, hz0, hz1, hz2⟩ := info_parts infoH
  have := run_makeSlice (P := prog) w 97 96 i0 _ underlying97 hi hz0 .i64 .i64 n n (by omega) (by omega) (by rw [hz1, Int.toNat_natCast]; omega) (by rw [hz2]; omega) (by omega)
  rw [Int.toNat_natCast, hz1] at this
  exact this
def Np (w : World) (P : Nat) (tv nv dv hv : Value) : Prop := w.heap[P]? = some (.cells #[tv, nv, dv, hv] 99 (0, 0))
theorem Np.lt {w : World} {P : Nat} {tv nv dv hv : Value} (h : Np w P tv nv dv hv) : P < w.heap.size := (Array.getElem?_eq_some_iff.1 h).1
theorem Np.keep {w w' : World} {P : Nat} {tv nv dv hv : Value} (h : Np w P tv nv dv hv) (hb : Below w.heap.size w w') : Np w' P tv nv dv hv := (hb.block P h.lt).trans h
theorem Np.set1 {w : World} {P : Nat} {tv nv dv hv : Value} (h : Np w P tv nv dv hv) (u : Value) : Np (w.setCell ⟨P, 1, none⟩ u) P tv u dv hv := by
  unfold Np at *
  simp [World.setCell, Array.getElem?_modify, h]
theorem Np.set2 {w : World} {P : Nat} {tv nv dv hv : Value} (h : Np w P tv nv dv hv) (u : Value) : Np (w.setCell ⟨P, 2, none⟩ u) P tv nv u hv := by
  unfold Np at *
  simp [World.setCell, Array.getElem?_modify, h]
theorem own_rrs {w : World} {lo : Nat} {v : Value} {l : List Int} (h : w.ownsRow lo 3 1 v l.length (l.map (Value.int .i64))) (hi : ∀ x ∈ l, i64 x) (hl : l.length <= 140737488351232) {R : Nat -> Prop} (hR : ∀ g, v.ownBlock = some g -> R g) : RrS 1 LyI R w v l := by
  rcases h.2 with ⟨rfl, e⟩ | ⟨g, cap, cur, rfl, hb, hc, hle, hm, hsz, htk⟩
  · have : l = [] := List.length_eq_zero_iff.1 e
    subst this
    exact ⟨none, 0, rfl, Nat.le_refl _, by omega, by simp, fun _ => rfl, .inl rfl⟩
  · refine ⟨some ⟨g, 0, none⟩, cap, rfl, hle, by unfold maxLen at hm; omega, hl, (by intro e; cases e), .inr ⟨g, 0, rfl, hR g rfl, fun j hj => ⟨?_, hi _ (List.getElem_mem hj)⟩⟩⟩
    have e : 0 + j * 1 = j := by omega
    rw [e, h.cellAt j (by omega)]
    simp [hj]
theorem one_new {w : World} {B : Nat} {z : Value} {t : TypeId} (h : w.heap[B]? = some (.cells #[z] t (0, 0))) : ∀ j u, [z][j]? = some u -> w.cell? ((⟨B, 0, none⟩ : Addr).add j) = some u := by
  intro j u hu
  cases j with
  | zero =>
    simp at hu
    subst hu
    exact cell_of h 0 _ rfl
  | succ j => simp at hu
theorem five_cells {w : World} {Q : Nat} {H : List Ar} (h : Hw w Q H) (hn : 0 < H.length) : w.cell? ⟨Q, 0, none⟩ = some (.bool H[0].ow) /\ w.cell? ⟨Q, 1, none⟩ = some (.bool H[0].lp) /\ w.cell? ⟨Q, 2, none⟩ = some (.int .i64 H[0].st) /\ w.cell? ⟨Q, 3, none⟩ = some (.int .i64 H[0].el) /\ w.cell? ⟨Q, 4, none⟩ = some (.int .i64 H[0].ls) := by
  have k (j : Nat) (hj : j < 5) {v : Value} (hv : (hc H[0])[j]? = some v) := Hw.cell h hn hj hv
  simp only [Nat.zero_mul, Nat.zero_add] at k
  exact ⟨k 0 (by omega) rfl, k 1 (by omega) rfl, k 2 (by omega) rfl, k 3 (by omega) rfl, k 4 (by omega) rfl⟩
theorem own_ne {w : World} {lo n : Nat} {v : Value} {xs : List Value} {b : Nat} {cs : Array Value} {t : TypeId} (ho : w.ownsRow lo 3 1 v n xs) (hb : w.heap[b]? = some (.cells cs t (0, 0))) (ht : t ≠ 3) : v.ownBlock ≠ some b := by
  intro e
  rcases ho.2 with ⟨rfl, -⟩ | ⟨g, cap, cur, rfl, -, hc, -⟩
  · cases e
  · have e : g = b := Option.some.inj e
    subst e
    rw [hb] at hc
    cases hc
    exact ht rfl
theorem fls_var {n : Nat} {t d : Int} : ∀ (r : List Ins) (H : Nat -> Int) (i : Nat), CPu.fls n t d H i r = 0 -> ∀ y ∈ r, y.1 = 6 -> 0 <= y.2 /\ y.2 < d
  | [], _, _, _, y, hy => by cases hy
  | x :: r, H, i, h, y, hy => by
    intro h6
    rw [CPu.fls] at h
    cases e : CPu.fl n t d H i x with
    | error c =>
      rw [e] at h
      have h : c = 0 := h
      unfold CPu.fl at e
      split at e
      · cases e; cases h
      split at e
      · cases e; cases h
      split at e
      · cases e; cases h
      split at e
      · cases e; cases h
      split at e
      · cases e; cases h
      · cases e
    | ok H' =>
      rw [e] at h
      rcases List.mem_cons.1 hy with rfl | hy
      · unfold CPu.fl at e
        split at e
        · cases e
        split at e
        · cases e
        split at e
        · cases e
        rename_i hn
        unfold CPu.hnm at hn
        rw [h6] at hn
        simpa using hn
      · exact fls_var r H' (i + 1) h y hy h6
theorem ck_var {L : List Ins} {t d : Int} (h : CPu.ck L t d = 0) : ∀ y ∈ L, y.1 = 6 -> 0 <= y.2 /\ y.2 < d := by
  unfold CPu.ck at h
  split at h
  · cases h
  · exact fls_var _ _ _ h
theorem need_nn (L : List Ins) : ∀ (m : Int), 0 <= m -> m <= 65 -> (∀ y ∈ L, y.1 = 6 -> 0 <= y.2 /\ y.2 <= 64) -> 0 <= L.foldl BSf.nst m /\ L.foldl BSf.nst m <= 65 := by
  induction L with
  | nil => intro m h1 h2 _; exact ⟨h1, h2⟩
  | cons y r ih =>
    intro m h1 h2 hy
    rw [List.foldl_cons]
    have hy0 := hy y (List.mem_cons_self ..)
    have : 0 <= BSf.nst m y /\ BSf.nst m y <= 65 := by
      unfold BSf.nst
      split
      · rename_i h6
        have := hy0 h6
        omega
      · exact ⟨h1, h2⟩
    exact ih _ this.1 this.2 fun z hz => hy z (List.mem_cons_of_mem _ hz)
theorem need_i {L : List Ins} (h : ∀ y ∈ L, y.1 = 6 -> 0 <= y.2 /\ y.2 <= 64) : 0 <= need L /\ need L <= 65 := need_nn L 0 (by omega) (by omega) h
theorem new_c {K m : Nat} {w : World} {v : Value} {x : Pg} (h : InPg K m w v x) (hK : K <= w.heap.size) (hb1 : x.b ≠ []) (hb2 : x.b.length <= 8192) (hc8 : x.c.length <= 8192) (hs4 : x.s.length <= 4096) (hcv : ∀ L ∈ x.c, ∀ y ∈ L, y.1 = 6 -> 0 <= y.2 /\ y.2 <= 64) :
    Calls prog 45 #[v] w fun e w' => ∃ P Q, e = .returned (.pointer (some ⟨P, 0, none⟩)) /\ w.heap.size <= Q /\ Q < P /\ P < w'.heap.size /\ Hw w' Q (hm0 x.b.length) /\ Pw (fun g => g < w'.heap.size /\ g ≠ Q) w' P (shd x) (.slice (some ⟨Q, 0, none⟩) x.b.length x.b.length) /\ Below w.heap.size w w' := by
  obtain ⟨a, n1, c1, b, n2, c2, c, n3, c3, d, n4, c4, rfl, h1, h2, h3, h4⟩ := h
  have e2 : n2 = x.c.length := by obtain ⟨_, _, e, _⟩ := h2; cases e; rfl
  have e3 : n3 = x.s.length := by obtain ⟨_, _, e, _⟩ := h3; cases e; rfl
  have e4 : n4 = x.b.length := by obtain ⟨_, _, e, _⟩ := h4; cases e; rfl
  subst e2 e3 e4
  obtain ⟨W, hW⟩ : ∃ W, w.alloc (.cells #[.slice a n1 c1, .slice b x.c.length c2, .slice c x.s.length c3, .slice d x.b.length c4] 29) = W := ⟨_, rfl⟩
  have b0 : Below w.heap.size w W := by rw [<- hW]; exact (Below.refl _ w).alloc (Nat.le_refl _) _
  have hs0 : W.heap.size = w.heap.size + 1 := by rw [<- hW]; simp
  have hx : W.heap[w.heap.size]? = some (.cells #[.slice a n1 c1, .slice b x.c.length c2, .slice c x.s.length c3, .slice d x.b.length c4] 29 (0, 0)) := by rw [<- hW]; exact heap_alloc_new w _
  have hmk := make_h hb2
  obtain ⟨W1, hW1⟩ : ∃ W1, (W.alloc (.cells (mkh x.b.length) 96)).alloc (.cells #[.slice a n1 c1, .slice none 0 0, .slice none 0 0, .slice (some ⟨W.heap.size, 0, none⟩) x.b.length x.b.length] 99) = W1 := ⟨_, rfl⟩
  have b1 : Below W.heap.size W W1 := by rw [<- hW1]; exact ((Below.refl _ W).alloc (Nat.le_refl _) _).alloc (by simp) _
  have hs1 : W1.heap.size = W.heap.size + 2 := by rw [<- hW1]; simp
  have hq : W1.heap[W.heap.size]? = some (.cells (hcs (List.replicate x.b.length ar0)).toArray 96 (0, 0)) := by
    rw [<- mkh_eq, <- hW1]
    have := (((Below.refl (W.heap.size + 1) (W.alloc (.cells (mkh x.b.length) 96))).alloc (by simp) (.cells #[.slice a n1 c1, .slice none 0 0, .slice none 0 0, .slice (some ⟨W.heap.size, 0, none⟩) x.b.length x.b.length] 99)).block W.heap.size (by omega)).trans (heap_alloc_new W _)
    exact this
  have hp : W1.heap[W.heap.size + 1]? = some (.cells #[.slice a n1 c1, .slice none 0 0, .slice none 0 0, .slice (some ⟨W.heap.size, 0, none⟩) x.b.length x.b.length] 99 (0, 0)) := by
    rw [<- hW1]
    have := heap_alloc_new (W.alloc (.cells (mkh x.b.length) 96)) (.cells #[.slice a n1 c1, .slice none 0 0, .slice none 0 0, .slice (some ⟨W.heap.size, 0, none⟩) x.b.length x.b.length] 99)
    simpa using this
  have bw1 : Below w.heap.size w W1 := b0.trans (b1.mono b0.size)
  obtain ⟨P, hP⟩ : ∃ P, W.heap.size + 1 = P := ⟨_, rfl⟩
  obtain ⟨Q, hQ⟩ : ∃ Q, W.heap.size = Q := ⟨_, rfl⟩
  have hQP : Q < P := by omega
  have hwQ : w.heap.size < Q := by omega
  have HP := hid hP
  have HQ := hid hQ
  have HS : Hid (∀ W', Below w.heap.size w W' -> RrS 1 LyS (Lo K) W' (.slice a n1 c1) x.t) := fun W' hb => RrS.keep (S := Lo K) h1 (fun _ h => h) fun g o x _ hg h => kS (S := Lo K) (fun b hb' _ => hb.block b (by have : b < K := hb'; omega)) hg h
  have HC : Hid (∀ W', Below w.heap.size w W' -> RrS 1 (LyCs (Lo K)) (Lo K) W' (.slice b x.c.length c2) x.c) := fun W' hb => RrS.keep (S := Lo K) (Ly := LyCs (Lo K)) h2 (fun _ h => h) fun g o x _ hg h => kC (S := Lo K) (fun b hb' _ => hb.block b (by have : b < K := hb'; omega)) (fun _ h => h) hg h
  have HT : Hid (∀ W', Below w.heap.size w W' -> RrS 4 (LyTs m (Lo K)) (Lo K) W' (.slice c x.s.length c3) x.s) := fun W' hb => RrS.keep (inl_rrs h3) (fun _ h => h) fun g o x _ hg h => kT (S := Lo K) (fun b hb' _ => hb.block b (by have : b < K := hb'; omega)) (fun _ h => h) hg h
  have HX := hid ((b1.block w.heap.size (by omega)).trans hx : W1.heap[w.heap.size]? = _)
  have HW1 := hid bw1
  have HHW := hid (by rw [hQ] at hq; exact hq : Hw W1 Q (List.replicate x.b.length ar0))
  have HNP := hid (by rw [hP, hQ] at hp; exact hp : Np W1 P (.slice a n1 c1) (.slice none 0 0) (.slice none 0 0) (.slice (some ⟨Q, 0, none⟩) x.b.length x.b.length))
  have HCV := hid hcv
  obtain ⟨p0, p1, p2, p3⟩ := TBase.four_box hx
  have HSZ := hid hs1
  have bA : Below W.heap.size W (W.alloc (.cells (mkh x.b.length) 96)) := (Below.refl _ W).alloc (Nat.le_refl _) _
  have q0 := below_cell (by omega) p0 bA
  have q3 := below_cell (by omega) p3 bA
  clear bA h1 h2 h3 h4 hx b0 b1 hs1 hq hp bw1 hcv hQ hP hs0
  go_enter func45, ntmps45
  go_wp2_with fail
  go_region
  rw [HP.out, HQ.out]
  obtain ⟨V, hV⟩ : ∃ V, W1.drew = V := ⟨_, rfl⟩
  rw [hV]
  have bV : Below W1.heap.size W1 V := by rw [<- hV]; exact (Below.refl _ _).drew
  have hsV : V.heap.size = P + 1 := by
    have h1 := HSZ.out
    have h2 := HP.out
    rw [<- hV]
    show W1.heap.size = P + 1
    omega
  have HWV := hid (HW1.out.trans (bV.mono HW1.out.size) : Below w.heap.size w V)
  have hPl := HNP.out.lt
  have HHV := hid ((bV.block Q (by omega)).trans HHW.out : Hw V Q (List.replicate x.b.length ar0))
  have HNV := hid (HNP.out.keep bV)
  have HXV := hid ((bV.block w.heap.size (by omega)).trans HX.out)
  have HSV := hid hsV
  clear p0 p1 p2 p3 q0 q3 hV bV hPl HSZ HP HQ HNP HHW HX hsV
  have p1 := (TBase.four_box HXV.out).2.1
  go_wp2_with fail
  go_loopw [19] (fun i wr => ∃ (q : Nat) (nv : Value), q <= x.c.length /\ i = .int .i64 q /\ Np wr P (.slice a n1 c1) nv (.slice none 0 0) (.slice (some ⟨Q, 0, none⟩) x.b.length x.b.length) /\ wr.ownsRow (P + 1) 3 1 nv q (((x.c.take q).map need).map (Value.int .i64)) /\ Below P V wr) (fun i _ => x.c.length - (intOf i).toNat)
  case atStart => exact ⟨0, (.slice none 0 0), by omega, rfl, HNV.out, World.ownsRow_nil _ _ _ _, Below.refl _ _⟩
  case round =>
    obtain ⟨q, nv, hq, rfl, hN, hOw, hB⟩ := hrel
    have HB := hid hB
    have HN := hid hN
    have HO := hid hOw
    obtain ⟨na, nc, rfl, hnc, hnm⟩ := own_shape hOw
    have hwP : Below w.heap.size w wr := HWV.out.trans (hB.mono (by omega))
    have HWR := hid hwP
    have hPl := hN.lt
    have z1 := cell_of hN 1 _ rfl
    have z2 := cell_of hN 2 _ rfl
    have z3 := cell_of hN 3 _ rfl
    clear hOw
    by_cases hlt : q < x.c.length
    · have d0 : decide ((q : Int) < (x.c.length : Int)) = true := by simp; omega
      have i0 : (0 : Int) <= (q : Int) := by omega
      have i1 : (q : Int) < (x.c.length : Int) := by omega
      obtain ⟨g, o, cap', hsl, hl, hm, hg, k0⟩ := RrS.at (HC.out wr hwP) hlt
      cases hsl
      obtain ⟨u, ku, hr⟩ := k0
      rw [Nat.mul_one] at ku
      have cN := need_c (w := wr.drew) (hr.keep (fun _ h => h) fun g o x _ hg h => kN (fun _ _ _ => rfl) hg h) (fun g hg => by have : g < K := hg; have := hwP.size; show g < wr.heap.size; omega) (HCV.out x.c[q] (List.getElem_mem hlt))
      obtain ⟨ua, uc, rfl, -⟩ := hr
      have HTK := hid (by rw [List.take_succ_eq_append_getElem hlt, List.map_append, List.map_append]; rfl : ((x.c.take (q + 1)).map need).map (Value.int .i64) = ((x.c.take q).map need).map (Value.int .i64) ++ [.int .i64 (need x.c[q])])
      generalize x.c[q] = L at *
      generalize need L = nd at *
      generalize L.length = Ln at *
      have hq8 : q + 1 <= 100000 := by omega
      clear hN hB hwP
      go_wp2_with fail
      refine wp_region_held_drew (S := fun _ => True) (by kernel_rfl) trivial (fun hHeld => ?_)
      refine tkH 0 rfl ?_; try simp only [ptH]
      refine tkH 1 rfl ?_; try simp only [ptH]
      refine tkH 2 rfl ?_; try simp only [ptH]
      refine tkH 3 rfl ?_; try simp only [ptH]
      refine tkH 5 rfl ?_; try simp only [ptH]
      refine rdH [4, 6] ?_
      refine AllReadyH.cons rfl (fun K0 hK => ?_) (AllReadyH.cons rfl (fun K0 hK => ?_) (AllReadyH.nil))
      · go_simp
        refine hK.out _ _ hHeld (fun hHeld => ?_)
        clear hK K0
        try simp only [ptH]
        refine rdH [6] ?_
        refine alH rfl fun K0 hK => ?_
        go_simp
        refine cN.mono ?_
        rintro e W2 ⟨rfl, b2⟩
        have b2 := ((Below.refl wr.heap.size wr).drew).trans b2
        have N2 := hid (HN.out.keep b2)
        have z12 := cell_of N2.out 1 _ rfl
        obtain ⟨W3, hW3⟩ : ∃ W3, W2.alloc (.cells #[.int .i64 nd] 3) = W3 := ⟨_, rfl⟩
        have b3 : Below W2.heap.size W2 W3 := by rw [<- hW3]; exact (Below.refl _ W2).alloc (Nat.le_refl _) _
        have x3 : W3.heap[W2.heap.size]? = some (.cells #[.int .i64 nd] 3 (0, 0)) := by rw [<- hW3]; exact heap_alloc_new W2 _
        have N3 := hid (N2.out.keep b3)
        have z13 := cell_of N3.out 1 _ rfl
        have HNW : Hid (∀ j u, [Value.int .i64 nd][j]? = some u -> W3.cell? ((⟨W2.heap.size, 0, none⟩ : Addr).add j) = some u) := one_new x3
        have HB3 := hid (b2.trans (b3.mono b2.size) : Below wr.heap.size wr W3)
        have HU3 := hid (own_keep HO.out fun g hg => HB3.out.block g (World.ownsRow.lt HO.out g hg).2 : W3.ownsRow (P + 1) 3 1 (.slice na q nc) q _)
        have hs3 : wr.heap.size <= W3.heap.size := HB3.out.size
        clear b2 b3 x3
        refine hK.out _ _ trivial (fun hHeld => ?_)
        clear hK K0
        try simp only [ptH]
        refine rdH [7] ?_
        refine alH rfl fun K0 hK => ?_
        go_simp
        try rw [hW3]
        refine hK.out _ _ trivial (fun hHeld => ?_)
        clear hK K0
        try simp only [ptH]
        refine rdH [8] ?_
        refine alH rfl fun K0 hK => ?_
        refine step_int (news := [.int .i64 nd]) (m := 1) (n := q) rfl _ _ rfl HU3.out rfl HNW.out (by simp [Value.oneCell']) hq8 (by omega) rfl rfl (fun v' W4 h3 h4 h5 => ?_)
        obtain ⟨g2, cap2, rfl⟩ : ∃ g2 cap2, v' = .slice (some ⟨g2, 0, none⟩) (q + 1) cap2 := by
          rcases h3.2 with ⟨_, e⟩ | ⟨g2, cap2, cur, e, _⟩
          · omega
          · exact ⟨g2, cap2, e⟩
        have hgP := (World.ownsRow.lt h3 g2 rfl).1
        have N4 := hid ((h4.block P (by omega) (fun e => by have := (World.ownsRow.lt HU3.out P e.symm).1; omega)).trans N3.out : Np W4 P _ _ _ _)
        have m1 := cell_of N4.out 1 _ rfl
        have r1 := frz N4.out 1
        have H3 := hid h3
        have HL := hid ((HB.out.trans (HB3.out.mono (by omega))).grown h4 (by omega) (fun k hk => by have := (World.ownsRow.lt HU3.out k hk).1; omega) : Below P V W4)
        clear h3 h4 h5
        refine hK.out _ _ trivial (fun hHeld => ?_)
        clear hK K0
        try simp only [ptH]
        refine tkH 9 rfl ?_; try simp only [ptH]
        refine tkH 10 rfl ?_; try simp only [ptH]
        refine rdH [11] ?_
        refine alH rfl fun K0 hK => ?_
        go_simp
        refine hK.out _ _ trivial (fun hHeld => ?_)
        clear hK K0 hHeld
        try simp only [ptH]
        refine dnH ?_
        go_wp2_with fail
        go_roundw
        case rel =>
          refine ⟨q + 1, _, by omega, by go_num, Np.set1 N4.out _, ?_, HL.out.setCell (p := ⟨P, 1, none⟩) (Nat.le_refl _) _⟩
          rw [HTK.out]
          exact own_keep H3.out fun k hk => Below.heap_setCell _ _ _ _ (show k ≠ P by have e : g2 = k := Option.some.inj hk; omega)
        case measure => simp only [intOf]; omega
      · go_simp
        refine cN.mono ?_
        rintro e W2 ⟨rfl, b2⟩
        have b2 := ((Below.refl wr.heap.size wr).drew).trans b2
        have N2 := hid (HN.out.keep b2)
        have z12 := cell_of N2.out 1 _ rfl
        obtain ⟨W3, hW3⟩ : ∃ W3, W2.alloc (.cells #[.int .i64 nd] 3) = W3 := ⟨_, rfl⟩
        have b3 : Below W2.heap.size W2 W3 := by rw [<- hW3]; exact (Below.refl _ W2).alloc (Nat.le_refl _) _
        have x3 : W3.heap[W2.heap.size]? = some (.cells #[.int .i64 nd] 3 (0, 0)) := by rw [<- hW3]; exact heap_alloc_new W2 _
        have N3 := hid (N2.out.keep b3)
        have z13 := cell_of N3.out 1 _ rfl
        have HNW : Hid (∀ j u, [Value.int .i64 nd][j]? = some u -> W3.cell? ((⟨W2.heap.size, 0, none⟩ : Addr).add j) = some u) := one_new x3
        have HB3 := hid (b2.trans (b3.mono b2.size) : Below wr.heap.size wr W3)
        have HU3 := hid (own_keep HO.out fun g hg => HB3.out.block g (World.ownsRow.lt HO.out g hg).2 : W3.ownsRow (P + 1) 3 1 (.slice na q nc) q _)
        have hs3 : wr.heap.size <= W3.heap.size := HB3.out.size
        clear b2 b3 x3
        refine hK.out _ _ trivial (fun hHeld => ?_)
        clear hK K0
        try simp only [ptH]
        refine rdH [4, 7] ?_
        refine AllReadyH.cons rfl (fun K0 hK => ?_) (AllReadyH.cons rfl (fun K0 hK => ?_) (AllReadyH.nil))
        · go_simp
          refine hK.out _ _ hHeld (fun hHeld => ?_)
          clear hK K0
          try simp only [ptH]
          refine rdH [7] ?_
          refine alH rfl fun K0 hK => ?_
          go_simp
          try rw [hW3]
          refine hK.out _ _ trivial (fun hHeld => ?_)
          clear hK K0
          try simp only [ptH]
          refine rdH [8] ?_
          refine alH rfl fun K0 hK => ?_
          refine step_int (news := [.int .i64 nd]) (m := 1) (n := q) rfl _ _ rfl HU3.out rfl HNW.out (by simp [Value.oneCell']) hq8 (by omega) rfl rfl (fun v' W4 h3 h4 h5 => ?_)
          obtain ⟨g2, cap2, rfl⟩ : ∃ g2 cap2, v' = .slice (some ⟨g2, 0, none⟩) (q + 1) cap2 := by
            rcases h3.2 with ⟨_, e⟩ | ⟨g2, cap2, cur, e, _⟩
            · omega
            · exact ⟨g2, cap2, e⟩
          have hgP := (World.ownsRow.lt h3 g2 rfl).1
          have N4 := hid ((h4.block P (by omega) (fun e => by have := (World.ownsRow.lt HU3.out P e.symm).1; omega)).trans N3.out : Np W4 P _ _ _ _)
          have m1 := cell_of N4.out 1 _ rfl
          have r1 := frz N4.out 1
          have H3 := hid h3
          have HL := hid ((HB.out.trans (HB3.out.mono (by omega))).grown h4 (by omega) (fun k hk => by have := (World.ownsRow.lt HU3.out k hk).1; omega) : Below P V W4)
          clear h3 h4 h5
          refine hK.out _ _ trivial (fun hHeld => ?_)
          clear hK K0
          try simp only [ptH]
          refine tkH 9 rfl ?_; try simp only [ptH]
          refine tkH 10 rfl ?_; try simp only [ptH]
          refine rdH [11] ?_
          refine alH rfl fun K0 hK => ?_
          go_simp
          refine hK.out _ _ trivial (fun hHeld => ?_)
          clear hK K0 hHeld
          try simp only [ptH]
          refine dnH ?_
          go_wp2_with fail
          go_roundw
          case rel =>
            refine ⟨q + 1, _, by omega, by go_num, Np.set1 N4.out _, ?_, HL.out.setCell (p := ⟨P, 1, none⟩) (Nat.le_refl _) _⟩
            rw [HTK.out]
            exact own_keep H3.out fun k hk => Below.heap_setCell _ _ _ _ (show k ≠ P by have e : g2 = k := Option.some.inj hk; omega)
          case measure => simp only [intOf]; omega
        · go_simp
          try rw [hW3]
          refine hK.out _ _ trivial (fun hHeld => ?_)
          clear hK K0
          try simp only [ptH]
          refine rdH [4] ?_
          refine alH rfl fun K0 hK => ?_
          go_simp
          refine hK.out _ _ hHeld (fun hHeld => ?_)
          clear hK K0
          try simp only [ptH]
          refine rdH [8] ?_
          refine alH rfl fun K0 hK => ?_
          refine step_int (news := [.int .i64 nd]) (m := 1) (n := q) rfl _ _ rfl HU3.out rfl HNW.out (by simp [Value.oneCell']) hq8 (by omega) rfl rfl (fun v' W4 h3 h4 h5 => ?_)
          obtain ⟨g2, cap2, rfl⟩ : ∃ g2 cap2, v' = .slice (some ⟨g2, 0, none⟩) (q + 1) cap2 := by
            rcases h3.2 with ⟨_, e⟩ | ⟨g2, cap2, cur, e, _⟩
            · omega
            · exact ⟨g2, cap2, e⟩
          have hgP := (World.ownsRow.lt h3 g2 rfl).1
          have N4 := hid ((h4.block P (by omega) (fun e => by have := (World.ownsRow.lt HU3.out P e.symm).1; omega)).trans N3.out : Np W4 P _ _ _ _)
          have m1 := cell_of N4.out 1 _ rfl
          have r1 := frz N4.out 1
          have H3 := hid h3
          have HL := hid ((HB.out.trans (HB3.out.mono (by omega))).grown h4 (by omega) (fun k hk => by have := (World.ownsRow.lt HU3.out k hk).1; omega) : Below P V W4)
          clear h3 h4 h5
          refine hK.out _ _ trivial (fun hHeld => ?_)
          clear hK K0
          try simp only [ptH]
          refine tkH 9 rfl ?_; try simp only [ptH]
          refine tkH 10 rfl ?_; try simp only [ptH]
          refine rdH [11] ?_
          refine alH rfl fun K0 hK => ?_
          go_simp
          refine hK.out _ _ trivial (fun hHeld => ?_)
          clear hK K0 hHeld
          try simp only [ptH]
          refine dnH ?_
          go_wp2_with fail
          go_roundw
          case rel =>
            refine ⟨q + 1, _, by omega, by go_num, Np.set1 N4.out _, ?_, HL.out.setCell (p := ⟨P, 1, none⟩) (Nat.le_refl _) _⟩
            rw [HTK.out]
            exact own_keep H3.out fun k hk => Below.heap_setCell _ _ _ _ (show k ≠ P by have e : g2 = k := Option.some.inj hk; omega)
          case measure => simp only [intOf]; omega
    · have d0 : decide ((q : Int) < (x.c.length : Int)) = false := by simp; omega
      have hqe : q = x.c.length := by omega
      subst hqe
      have HO2 := hid (by have := HO.out; rw [List.take_length] at this; exact this)
      have hsz : P < wr.heap.size := hPl
      have HXR := hid ((hB.block w.heap.size (by omega)).trans HXV.out)
      have p2 := (TBase.four_box HXR.out).2.2.1
      obtain ⟨V2, hV2⟩ : ∃ V2, V2 = wr := ⟨_, rfl⟩
      have HHR := hid ((hB.block Q (by omega)).trans HHV.out : Hw wr Q _)
      clear hlt d0 HO hq p1 z1 z2 z3 hN hB hwP
      subst hV2
      go_wp2_with fail
      go_loopw [38] (fun i wr => ∃ (q : Nat) (dv : Value), q <= x.s.length /\ i = .int .i64 q /\ Np wr P (.slice a n1 c1) (.slice na x.c.length nc) dv (.slice (some ⟨Q, 0, none⟩) x.b.length x.b.length) /\ wr.ownsRow V2.heap.size 3 1 dv q (((x.s.take q).map fun t => (TMeas.dp [t] : Int)).map (Value.int .i64)) /\ Xl P V2.heap.size V2 wr) (fun i _ => x.s.length - (intOf i).toNat)
      case atStart => exact ⟨0, (.slice none 0 0), by omega, rfl, HN.out, World.ownsRow_nil _ _ _ _, Below.refl _ _, fun _ _ _ => rfl⟩
      case round =>
        obtain ⟨q, dv, hq, rfl, hN, hOw, hB⟩ := hrel
        have HB2 := hid hB
        have HN2 := hid hN
        have HD := hid hOw
        obtain ⟨da, dc, rfl, hdc, hdm⟩ := own_shape hOw
        have hwR : Below w.heap.size w wr := HWR.out.trans (hB.1.mono (by omega))
        have hPl2 := hN.lt
        have hsz2 : V2.heap.size <= wr.heap.size := hB.1.size
        have z1 := cell_of hN 1 _ rfl
        have z2 := cell_of hN 2 _ rfl
        have z3 := cell_of hN 3 _ rfl
        clear hOw
        by_cases hlt : q < x.s.length
        · have d0 : decide ((q : Int) < (x.s.length : Int)) = true := by simp; omega
          have i0 : (0 : Int) <= (q : Int) := by omega
          have i1 : (q : Int) < (x.s.length : Int) := by omega
          obtain ⟨g, o, cap', hsl, hl, hm, hg, k0⟩ := RrS.at (HT.out wr hwR) hlt
          cases hsl
          obtain ⟨u, ⟨v0, v1, v2, v3, rfl, t0, t1, t2, t3⟩, hin'⟩ := k0
          have HI := hid hin'.plain
          obtain ⟨m', a1, f1, a2, f2, -, rfl, rfl, rfl, rfl, -⟩ := hin'.kinds
          have HTK := hid (by rw [List.take_succ_eq_append_getElem hlt, List.map_append, List.map_append]; rfl : ((x.s.take (q + 1)).map fun t => (TMeas.dp [t] : Int)).map (Value.int .i64) = ((x.s.take q).map fun t => (TMeas.dp [t] : Int)).map (Value.int .i64) ++ [.int .i64 (TMeas.dp [x.s[q]] : Int)])
          generalize x.s[q] = t at *
          obtain ⟨Vb, hVb⟩ : ∃ Vb, wr.alloc (.cells #[.string t.g, .string t.s, .slice a1 t.n.length f1, .slice a2 t.l.length f2] 68) = Vb := ⟨_, rfl⟩
          have bb : Below wr.heap.size wr Vb := by rw [<- hVb]; exact (Below.refl _ _).alloc (Nat.le_refl _) _
          have xb : Vb.heap[wr.heap.size]? = some (.cells #[.string t.g, .string t.s, .slice a1 t.n.length f1, .slice a2 t.l.length f2] 68 (0, 0)) := by rw [<- hVb]; exact heap_alloc_new wr _
          obtain ⟨Wt, hWt⟩ : ∃ Wt, (Vb.drew).alloc (.cells #[.string t.g, .string t.s, .slice a1 t.n.length f1, .slice a2 t.l.length f2] 68) = Wt := ⟨_, rfl⟩
          have bt : Below Vb.heap.size Vb Wt := by rw [<- hWt]; exact ((Below.refl _ Vb).drew).alloc (Nat.le_refl _) _
          have xt : Wt.heap[Vb.heap.size]? = some (.cells #[.string t.g, .string t.s, .slice a1 t.n.length f1, .slice a2 t.l.length f2] 68 (0, 0)) := by rw [<- hWt]; exact heap_alloc_new Vb.drew _
          have cD := TMeas.depth_c m _ [t] Wt (one_row xt ((HI.out.below bb).below bt))
          generalize TMeas.dp [t] = dd at *
          have sb := TBase.four_box xb
          have xbt := (bt.block wr.heap.size (by have := bb.size; have := (Array.getElem?_eq_some_iff.1 xb).1; omega)).trans xb
          have st := TBase.four_box xbt
          have hszb : wr.heap.size < Vb.heap.size := (Array.getElem?_eq_some_iff.1 xb).1
          have zb2 := cell_of (HN2.out.keep bb) 2 _ rfl
          have zt2 := cell_of ((HN2.out.keep bb).keep bt) 2 _ rfl
          have HBT := hid (bb.trans (bt.mono bb.size) : Below wr.heap.size wr Wt)
          have HXT := hid xbt
          have hszt : Vb.heap.size <= Wt.heap.size := bt.size
          have hq8 : q + 1 <= 100000 := by omega
          obtain ⟨sb0, sb1, sb2, sb3⟩ := sb
          obtain ⟨st0, st1, st2, st3⟩ := st
          have HSB := hid (⟨sb0, sb1, sb2, sb3⟩ : _ /\ _ /\ _ /\ _)
          have HST := hid (⟨st0, st1, st2, st3⟩ : _ /\ _ /\ _ /\ _)
          generalize t.n.length = tn at *
          generalize t.l.length = tl at *
          generalize t.g = tg at *
          generalize t.s = ts at *
          clear hN hB hwR hin' bb bt xb xt xbt HI
          go_wp2_with fail
          refine wp_region_held_drew (S := fun w' => w'.cell? ⟨wr.heap.size, 0, none⟩ = some (.string tg) /\ w'.cell? ⟨wr.heap.size, 1, none⟩ = some (.string ts) /\ w'.cell? ⟨wr.heap.size, 2, none⟩ = some (.slice a1 tn f1) /\ w'.cell? ⟨wr.heap.size, 3, none⟩ = some (.slice a2 tl f2)) (by kernel_rfl) HSB.out (fun hHeld => ?_)
          refine tkH 0 rfl ?_; try simp only [ptH]
          refine tkH 1 rfl ?_; try simp only [ptH]
          refine tkH 2 rfl ?_; try simp only [ptH]
          refine tkH 3 rfl ?_; try simp only [ptH]
          refine tkH 5 rfl ?_; try simp only [ptH]
          refine rdH [4, 6] ?_
          refine AllReadyH.cons rfl (fun K0 hK => ?_) (AllReadyH.cons rfl (fun K0 hK => ?_) (AllReadyH.nil))
          · go_simp
            refine hK.out _ _ hHeld (fun hHeld => ?_)
            clear hK K0
            try simp only [ptH]
            refine rdH [6] ?_
            refine alH rfl fun K0 hK => ?_
            go_simp
            try rw [hWt]
            refine hK.out _ _ HST.out (fun hHeld => ?_)
            clear hK K0
            try simp only [ptH]
            refine rdH [7] ?_
            refine alH rfl fun K0 hK => ?_
            go_simp
            refine cD.mono ?_
            rintro e W2 ⟨rfl, b2⟩
            have b2w := HBT.out.trans (b2.mono HBT.out.size)
            have N2 := hid (HN2.out.keep b2w)
            have z22 := cell_of N2.out 2 _ rfl
            have X2 := hid ((b2.block wr.heap.size (by omega)).trans HXT.out)
            have S2 := hid (TBase.four_box X2.out)
            have hs2 : Wt.heap.size <= W2.heap.size := b2.size
            obtain ⟨W3, hW3⟩ : ∃ W3, W2.alloc (.cells #[.int .i64 (dd : Int)] 3) = W3 := ⟨_, rfl⟩
            have b3 : Below W2.heap.size W2 W3 := by rw [<- hW3]; exact (Below.refl _ W2).alloc (Nat.le_refl _) _
            have x3 : W3.heap[W2.heap.size]? = some (.cells #[.int .i64 (dd : Int)] 3 (0, 0)) := by rw [<- hW3]; exact heap_alloc_new W2 _
            have N3 := hid (N2.out.keep b3)
            have z23 := cell_of N3.out 2 _ rfl
            have X3 := hid ((b3.block wr.heap.size (by omega)).trans X2.out)
            have S3 := hid (TBase.four_box X3.out)
            have HNW : Hid (∀ j u, [Value.int .i64 (dd : Int)][j]? = some u -> W3.cell? ((⟨W2.heap.size, 0, none⟩ : Addr).add j) = some u) := one_new x3
            have HB3 := hid (b2w.trans (b3.mono b2w.size) : Below wr.heap.size wr W3)
            have HU3 := hid (own_keep HD.out fun g hg => HB3.out.block g (World.ownsRow.lt HD.out g hg).2 : W3.ownsRow V2.heap.size 3 1 (.slice da q dc) q _)
            have hs3 : W2.heap.size <= W3.heap.size := b3.size
            clear b2 b2w b3 x3
            refine hK.out _ _ S2.out (fun hHeld => ?_)
            clear hK K0
            try simp only [ptH]
            refine rdH [8] ?_
            refine alH rfl fun K0 hK => ?_
            go_simp
            try rw [hW3]
            refine hK.out _ _ S3.out (fun hHeld => ?_)
            clear hK K0
            try simp only [ptH]
            refine rdH [9] ?_
            refine alH rfl fun K0 hK => ?_
            refine step_int (news := [.int .i64 (dd : Int)]) (m := 1) (n := q) rfl _ _ rfl HU3.out rfl HNW.out (by simp [Value.oneCell']) hq8 (by omega) rfl rfl (fun v' W4 h3 h4 h5 => ?_)
            obtain ⟨g2, cap2, rfl⟩ : ∃ g2 cap2, v' = .slice (some ⟨g2, 0, none⟩) (q + 1) cap2 := by
              rcases h3.2 with ⟨_, e⟩ | ⟨g2, cap2, cur, e, _⟩
              · omega
              · exact ⟨g2, cap2, e⟩
            have hgP := (World.ownsRow.lt h3 g2 rfl).1
            have HG4 := hid (fun k (hk : k < V2.heap.size) => (h4.block k (by omega) (fun e => by have := (World.ownsRow.lt HU3.out k e.symm).1; omega)).trans (HB3.out.block k (by omega)) : ∀ k, k < V2.heap.size -> W4.heap[k]? = wr.heap[k]?)
            have N4 := hid ((HG4.out P (by omega)).trans HN2.out : Np W4 P _ _ _ _)
            have X4 := (h4.block wr.heap.size (by omega) (fun e => by have hh := own_ne HU3.out X3.out (by decide); exact hh e.symm)).trans X3.out
            have S4 := hid (TBase.four_box X4)
            have S5 := hid (by have e : wr.heap.size ≠ P := by omega
                               exact TBase.four_box ((Below.heap_setCell W4 ⟨P, 2, none⟩ (.slice (some ⟨g2, 0, none⟩) (q + 1) cap2) _ e).trans X4))
            have m2 := cell_of N4.out 2 _ rfl
            have r2 := frz N4.out 2
            have H3 := hid h3
            have HL := hid ((HB2.out.1.trans (HB3.out.mono (by omega))).grown h4 (by omega) (fun k hk => by have := (World.ownsRow.lt HU3.out k hk).1; omega) : Below P V2 W4)
            clear h3 h4 h5 X4
            refine hK.out _ _ S4.out (fun hHeld => ?_)
            clear hK K0
            try simp only [ptH]
            refine tkH 10 rfl ?_; try simp only [ptH]
            refine tkH 11 rfl ?_; try simp only [ptH]
            refine rdH [12] ?_
            refine alH rfl fun K0 hK => ?_
            go_simp
            refine hK.out _ _ S5.out (fun hHeld => ?_)
            clear hK K0 hHeld
            try simp only [ptH]
            refine dnH ?_
            go_wp2_with fail
            go_roundw
            case rel =>
              refine ⟨q + 1, _, by omega, by go_num, Np.set2 N4.out _, ?_, HL.out.setCell (p := ⟨P, 2, none⟩) (Nat.le_refl _) _, fun k hk hkP => ?_⟩
              · rw [HTK.out]
                exact own_keep H3.out fun k hk => Below.heap_setCell _ _ _ _ (show k ≠ P by have e : g2 = k := Option.some.inj hk; omega)
              · exact (Below.heap_setCell _ _ _ _ hkP).trans ((HG4.out k hk).trans (HB2.out.2 k hk hkP))
            case measure => simp only [intOf]; omega
          · go_simp
            try rw [hWt]
            refine hK.out _ _ HST.out (fun hHeld => ?_)
            clear hK K0
            try simp only [ptH]
            refine rdH [4, 7] ?_
            refine AllReadyH.cons rfl (fun K0 hK => ?_) (AllReadyH.cons rfl (fun K0 hK => ?_) (AllReadyH.nil))
            · go_simp
              refine hK.out _ _ hHeld (fun hHeld => ?_)
              clear hK K0
              try simp only [ptH]
              refine rdH [7] ?_
              refine alH rfl fun K0 hK => ?_
              go_simp
              refine cD.mono ?_
              rintro e W2 ⟨rfl, b2⟩
              have b2w := HBT.out.trans (b2.mono HBT.out.size)
              have N2 := hid (HN2.out.keep b2w)
              have z22 := cell_of N2.out 2 _ rfl
              have X2 := hid ((b2.block wr.heap.size (by omega)).trans HXT.out)
              have S2 := hid (TBase.four_box X2.out)
              have hs2 : Wt.heap.size <= W2.heap.size := b2.size
              obtain ⟨W3, hW3⟩ : ∃ W3, W2.alloc (.cells #[.int .i64 (dd : Int)] 3) = W3 := ⟨_, rfl⟩
              have b3 : Below W2.heap.size W2 W3 := by rw [<- hW3]; exact (Below.refl _ W2).alloc (Nat.le_refl _) _
              have x3 : W3.heap[W2.heap.size]? = some (.cells #[.int .i64 (dd : Int)] 3 (0, 0)) := by rw [<- hW3]; exact heap_alloc_new W2 _
              have N3 := hid (N2.out.keep b3)
              have z23 := cell_of N3.out 2 _ rfl
              have X3 := hid ((b3.block wr.heap.size (by omega)).trans X2.out)
              have S3 := hid (TBase.four_box X3.out)
              have HNW : Hid (∀ j u, [Value.int .i64 (dd : Int)][j]? = some u -> W3.cell? ((⟨W2.heap.size, 0, none⟩ : Addr).add j) = some u) := one_new x3
              have HB3 := hid (b2w.trans (b3.mono b2w.size) : Below wr.heap.size wr W3)
              have HU3 := hid (own_keep HD.out fun g hg => HB3.out.block g (World.ownsRow.lt HD.out g hg).2 : W3.ownsRow V2.heap.size 3 1 (.slice da q dc) q _)
              have hs3 : W2.heap.size <= W3.heap.size := b3.size
              clear b2 b2w b3 x3
              refine hK.out _ _ S2.out (fun hHeld => ?_)
              clear hK K0
              try simp only [ptH]
              refine rdH [8] ?_
              refine alH rfl fun K0 hK => ?_
              go_simp
              try rw [hW3]
              refine hK.out _ _ S3.out (fun hHeld => ?_)
              clear hK K0
              try simp only [ptH]
              refine rdH [9] ?_
              refine alH rfl fun K0 hK => ?_
              refine step_int (news := [.int .i64 (dd : Int)]) (m := 1) (n := q) rfl _ _ rfl HU3.out rfl HNW.out (by simp [Value.oneCell']) hq8 (by omega) rfl rfl (fun v' W4 h3 h4 h5 => ?_)
              obtain ⟨g2, cap2, rfl⟩ : ∃ g2 cap2, v' = .slice (some ⟨g2, 0, none⟩) (q + 1) cap2 := by
                rcases h3.2 with ⟨_, e⟩ | ⟨g2, cap2, cur, e, _⟩
                · omega
                · exact ⟨g2, cap2, e⟩
              have hgP := (World.ownsRow.lt h3 g2 rfl).1
              have HG4 := hid (fun k (hk : k < V2.heap.size) => (h4.block k (by omega) (fun e => by have := (World.ownsRow.lt HU3.out k e.symm).1; omega)).trans (HB3.out.block k (by omega)) : ∀ k, k < V2.heap.size -> W4.heap[k]? = wr.heap[k]?)
              have N4 := hid ((HG4.out P (by omega)).trans HN2.out : Np W4 P _ _ _ _)
              have X4 := (h4.block wr.heap.size (by omega) (fun e => by have hh := own_ne HU3.out X3.out (by decide); exact hh e.symm)).trans X3.out
              have S4 := hid (TBase.four_box X4)
              have S5 := hid (by have e : wr.heap.size ≠ P := by omega
                                 exact TBase.four_box ((Below.heap_setCell W4 ⟨P, 2, none⟩ (.slice (some ⟨g2, 0, none⟩) (q + 1) cap2) _ e).trans X4))
              have m2 := cell_of N4.out 2 _ rfl
              have r2 := frz N4.out 2
              have H3 := hid h3
              have HL := hid ((HB2.out.1.trans (HB3.out.mono (by omega))).grown h4 (by omega) (fun k hk => by have := (World.ownsRow.lt HU3.out k hk).1; omega) : Below P V2 W4)
              clear h3 h4 h5 X4
              refine hK.out _ _ S4.out (fun hHeld => ?_)
              clear hK K0
              try simp only [ptH]
              refine tkH 10 rfl ?_; try simp only [ptH]
              refine tkH 11 rfl ?_; try simp only [ptH]
              refine rdH [12] ?_
              refine alH rfl fun K0 hK => ?_
              go_simp
              refine hK.out _ _ S5.out (fun hHeld => ?_)
              clear hK K0 hHeld
              try simp only [ptH]
              refine dnH ?_
              go_wp2_with fail
              go_roundw
              case rel =>
                refine ⟨q + 1, _, by omega, by go_num, Np.set2 N4.out _, ?_, HL.out.setCell (p := ⟨P, 2, none⟩) (Nat.le_refl _) _, fun k hk hkP => ?_⟩
                · rw [HTK.out]
                  exact own_keep H3.out fun k hk => Below.heap_setCell _ _ _ _ (show k ≠ P by have e : g2 = k := Option.some.inj hk; omega)
                · exact (Below.heap_setCell _ _ _ _ hkP).trans ((HG4.out k hk).trans (HB2.out.2 k hk hkP))
              case measure => simp only [intOf]; omega
            · go_simp
              refine cD.mono ?_
              rintro e W2 ⟨rfl, b2⟩
              have b2w := HBT.out.trans (b2.mono HBT.out.size)
              have N2 := hid (HN2.out.keep b2w)
              have z22 := cell_of N2.out 2 _ rfl
              have X2 := hid ((b2.block wr.heap.size (by omega)).trans HXT.out)
              have S2 := hid (TBase.four_box X2.out)
              have hs2 : Wt.heap.size <= W2.heap.size := b2.size
              obtain ⟨W3, hW3⟩ : ∃ W3, W2.alloc (.cells #[.int .i64 (dd : Int)] 3) = W3 := ⟨_, rfl⟩
              have b3 : Below W2.heap.size W2 W3 := by rw [<- hW3]; exact (Below.refl _ W2).alloc (Nat.le_refl _) _
              have x3 : W3.heap[W2.heap.size]? = some (.cells #[.int .i64 (dd : Int)] 3 (0, 0)) := by rw [<- hW3]; exact heap_alloc_new W2 _
              have N3 := hid (N2.out.keep b3)
              have z23 := cell_of N3.out 2 _ rfl
              have X3 := hid ((b3.block wr.heap.size (by omega)).trans X2.out)
              have S3 := hid (TBase.four_box X3.out)
              have HNW : Hid (∀ j u, [Value.int .i64 (dd : Int)][j]? = some u -> W3.cell? ((⟨W2.heap.size, 0, none⟩ : Addr).add j) = some u) := one_new x3
              have HB3 := hid (b2w.trans (b3.mono b2w.size) : Below wr.heap.size wr W3)
              have HU3 := hid (own_keep HD.out fun g hg => HB3.out.block g (World.ownsRow.lt HD.out g hg).2 : W3.ownsRow V2.heap.size 3 1 (.slice da q dc) q _)
              have hs3 : W2.heap.size <= W3.heap.size := b3.size
              clear b2 b2w b3 x3
              refine hK.out _ _ S2.out (fun hHeld => ?_)
              clear hK K0
              try simp only [ptH]
              refine rdH [4, 8] ?_
              refine AllReadyH.cons rfl (fun K0 hK => ?_) (AllReadyH.cons rfl (fun K0 hK => ?_) (AllReadyH.nil))
              · go_simp
                refine hK.out _ _ hHeld (fun hHeld => ?_)
                clear hK K0
                try simp only [ptH]
                refine rdH [8] ?_
                refine alH rfl fun K0 hK => ?_
                go_simp
                try rw [hW3]
                refine hK.out _ _ S3.out (fun hHeld => ?_)
                clear hK K0
                try simp only [ptH]
                refine rdH [9] ?_
                refine alH rfl fun K0 hK => ?_
                refine step_int (news := [.int .i64 (dd : Int)]) (m := 1) (n := q) rfl _ _ rfl HU3.out rfl HNW.out (by simp [Value.oneCell']) hq8 (by omega) rfl rfl (fun v' W4 h3 h4 h5 => ?_)
                obtain ⟨g2, cap2, rfl⟩ : ∃ g2 cap2, v' = .slice (some ⟨g2, 0, none⟩) (q + 1) cap2 := by
                  rcases h3.2 with ⟨_, e⟩ | ⟨g2, cap2, cur, e, _⟩
                  · omega
                  · exact ⟨g2, cap2, e⟩
                have hgP := (World.ownsRow.lt h3 g2 rfl).1
                have HG4 := hid (fun k (hk : k < V2.heap.size) => (h4.block k (by omega) (fun e => by have := (World.ownsRow.lt HU3.out k e.symm).1; omega)).trans (HB3.out.block k (by omega)) : ∀ k, k < V2.heap.size -> W4.heap[k]? = wr.heap[k]?)
                have N4 := hid ((HG4.out P (by omega)).trans HN2.out : Np W4 P _ _ _ _)
                have X4 := (h4.block wr.heap.size (by omega) (fun e => by have hh := own_ne HU3.out X3.out (by decide); exact hh e.symm)).trans X3.out
                have S4 := hid (TBase.four_box X4)
                have S5 := hid (by have e : wr.heap.size ≠ P := by omega
                                   exact TBase.four_box ((Below.heap_setCell W4 ⟨P, 2, none⟩ (.slice (some ⟨g2, 0, none⟩) (q + 1) cap2) _ e).trans X4))
                have m2 := cell_of N4.out 2 _ rfl
                have r2 := frz N4.out 2
                have H3 := hid h3
                have HL := hid ((HB2.out.1.trans (HB3.out.mono (by omega))).grown h4 (by omega) (fun k hk => by have := (World.ownsRow.lt HU3.out k hk).1; omega) : Below P V2 W4)
                clear h3 h4 h5 X4
                refine hK.out _ _ S4.out (fun hHeld => ?_)
                clear hK K0
                try simp only [ptH]
                refine tkH 10 rfl ?_; try simp only [ptH]
                refine tkH 11 rfl ?_; try simp only [ptH]
                refine rdH [12] ?_
                refine alH rfl fun K0 hK => ?_
                go_simp
                refine hK.out _ _ S5.out (fun hHeld => ?_)
                clear hK K0 hHeld
                try simp only [ptH]
                refine dnH ?_
                go_wp2_with fail
                go_roundw
                case rel =>
                  refine ⟨q + 1, _, by omega, by go_num, Np.set2 N4.out _, ?_, HL.out.setCell (p := ⟨P, 2, none⟩) (Nat.le_refl _) _, fun k hk hkP => ?_⟩
                  · rw [HTK.out]
                    exact own_keep H3.out fun k hk => Below.heap_setCell _ _ _ _ (show k ≠ P by have e : g2 = k := Option.some.inj hk; omega)
                  · exact (Below.heap_setCell _ _ _ _ hkP).trans ((HG4.out k hk).trans (HB2.out.2 k hk hkP))
                case measure => simp only [intOf]; omega
              · go_simp
                try rw [hW3]
                refine hK.out _ _ S3.out (fun hHeld => ?_)
                clear hK K0
                try simp only [ptH]
                refine rdH [4] ?_
                refine alH rfl fun K0 hK => ?_
                go_simp
                refine hK.out _ _ hHeld (fun hHeld => ?_)
                clear hK K0
                try simp only [ptH]
                refine rdH [9] ?_
                refine alH rfl fun K0 hK => ?_
                refine step_int (news := [.int .i64 (dd : Int)]) (m := 1) (n := q) rfl _ _ rfl HU3.out rfl HNW.out (by simp [Value.oneCell']) hq8 (by omega) rfl rfl (fun v' W4 h3 h4 h5 => ?_)
                obtain ⟨g2, cap2, rfl⟩ : ∃ g2 cap2, v' = .slice (some ⟨g2, 0, none⟩) (q + 1) cap2 := by
                  rcases h3.2 with ⟨_, e⟩ | ⟨g2, cap2, cur, e, _⟩
                  · omega
                  · exact ⟨g2, cap2, e⟩
                have hgP := (World.ownsRow.lt h3 g2 rfl).1
                have HG4 := hid (fun k (hk : k < V2.heap.size) => (h4.block k (by omega) (fun e => by have := (World.ownsRow.lt HU3.out k e.symm).1; omega)).trans (HB3.out.block k (by omega)) : ∀ k, k < V2.heap.size -> W4.heap[k]? = wr.heap[k]?)
                have N4 := hid ((HG4.out P (by omega)).trans HN2.out : Np W4 P _ _ _ _)
                have X4 := (h4.block wr.heap.size (by omega) (fun e => by have hh := own_ne HU3.out X3.out (by decide); exact hh e.symm)).trans X3.out
                have S4 := hid (TBase.four_box X4)
                have S5 := hid (by have e : wr.heap.size ≠ P := by omega
                                   exact TBase.four_box ((Below.heap_setCell W4 ⟨P, 2, none⟩ (.slice (some ⟨g2, 0, none⟩) (q + 1) cap2) _ e).trans X4))
                have m2 := cell_of N4.out 2 _ rfl
                have r2 := frz N4.out 2
                have H3 := hid h3
                have HL := hid ((HB2.out.1.trans (HB3.out.mono (by omega))).grown h4 (by omega) (fun k hk => by have := (World.ownsRow.lt HU3.out k hk).1; omega) : Below P V2 W4)
                clear h3 h4 h5 X4
                refine hK.out _ _ S4.out (fun hHeld => ?_)
                clear hK K0
                try simp only [ptH]
                refine tkH 10 rfl ?_; try simp only [ptH]
                refine tkH 11 rfl ?_; try simp only [ptH]
                refine rdH [12] ?_
                refine alH rfl fun K0 hK => ?_
                go_simp
                refine hK.out _ _ S5.out (fun hHeld => ?_)
                clear hK K0 hHeld
                try simp only [ptH]
                refine dnH ?_
                go_wp2_with fail
                go_roundw
                case rel =>
                  refine ⟨q + 1, _, by omega, by go_num, Np.set2 N4.out _, ?_, HL.out.setCell (p := ⟨P, 2, none⟩) (Nat.le_refl _) _, fun k hk hkP => ?_⟩
                  · rw [HTK.out]
                    exact own_keep H3.out fun k hk => Below.heap_setCell _ _ _ _ (show k ≠ P by have e : g2 = k := Option.some.inj hk; omega)
                  · exact (Below.heap_setCell _ _ _ _ hkP).trans ((HG4.out k hk).trans (HB2.out.2 k hk hkP))
                case measure => simp only [intOf]; omega
        · have d0 : decide ((q : Int) < (x.s.length : Int)) = false := by simp; omega
          have hqe : q = x.s.length := by omega
          subst hqe
          have HD2 := hid (by have := HD.out; rw [List.take_length] at this; exact this)
          have HHQ := hid ((hB.2 Q (by omega) (by omega)).trans HHR.out : Hw wr Q _)
          have HO3 := hid (own_keep HO2.out fun k hk => hB.2 k (World.ownsRow.lt HO2.out k hk).2 (by have := (World.ownsRow.lt HO2.out k hk).1; omega) : wr.ownsRow (P + 1) 3 1 (.slice na x.c.length nc) x.c.length _)
          clear hlt d0 hq HD hN hB z1 z2 p2
          have hb0 : (0 : Int) < (x.b.length : Int) := by have := List.length_pos_iff.2 hb1; omega
          obtain ⟨y0, y1, y2, y3, y4⟩ := five_cells HHQ.out (by rw [List.length_replicate]; omega)
          have r0 := frz HHQ.out 0
          have r1 := frz HHQ.out 1
          have r2 := frz HHQ.out 2
          have r3 := frz HHQ.out 3
          have r4 := frz HHQ.out 4
          have HWQ := hid hwR
          clear hwR
          go_wp2_with fail
          go_ret
          obtain ⟨Wf, hWf⟩ : ∃ Wf, ((((wr.setCell ⟨Q, 0, none⟩ (.bool true)).setCell ⟨Q, 1, none⟩ (.bool false)).setCell ⟨Q, 2, none⟩ (.int .i64 1)).setCell ⟨Q, 3, none⟩ (.int .i64 0)).setCell ⟨Q, 4, none⟩ (.int .i64 0) = Wf := ⟨_, rfl⟩
          have hXb := Xb.set5 (Q := Q) (w := wr) 0 (.bool true) (.bool false) (.int .i64 1) (.int .i64 0) (.int .i64 0)
          have hset := Hw.set HHQ.out (q := 0) (by rw [List.length_replicate]; omega) ⟨true, false, 1, 0, 0⟩
          simp only [Nat.zero_mul, Nat.zero_add] at hXb hset
          rw [hWf] at hXb hset ⊢
          have hsf : wr.heap.size <= Wf.heap.size := hXb.1.size
          have hkf : ∀ k, k < wr.heap.size -> k ≠ Q -> Wf.heap[k]? = wr.heap[k]? := hXb.2
          have HNf : Np Wf P _ _ _ _ := (hkf P (by omega) (by omega)).trans HN2.out
          have hOf := own_keep HO3.out fun k hk => hkf k (World.ownsRow.lt HO3.out k hk).2 (by have := (World.ownsRow.lt HO3.out k hk).1; omega)
          have hDf := own_keep HD2.out fun k hk => hkf k (World.ownsRow.lt HD2.out k hk).2 (by have := (World.ownsRow.lt HD2.out k hk).1; omega)
          have hBf : Below w.heap.size w Wf := HWQ.out.trans (hXb.1.mono (by omega))
          refine ⟨P, Q, rfl, by omega, hQP, by omega, hset, ⟨_, _, _, HNf, ⟨by omega, by omega⟩, ?_, ?_, ?_⟩, hBf⟩
          · exact (HS.out Wf hBf).keep (fun k hk => by have : k < K := hk; exact ⟨by have := hBf.size; omega, by omega⟩) fun g o x _ _ h => h
          · refine own_rrs (l := x.c.map need) (by rw [List.length_map]; exact hOf) (fun z hz => ?_) (by rw [List.length_map]; omega) (fun k hk => ?_)
            · obtain ⟨L, hL, rfl⟩ := List.mem_map.1 hz
              have := need_i (HCV.out L hL)
              constructor <;> omega
            · have := World.ownsRow.lt hOf k hk
              exact ⟨this.2, by omega⟩
          · refine own_rrs (l := x.s.map fun t => (TMeas.dp [t] : Int)) (by rw [List.length_map]; exact hDf) (fun z hz => ?_) (by rw [List.length_map]; omega) (fun k hk => ?_)
            · obtain ⟨t, ht, rfl⟩ := List.mem_map.1 hz
              have := (TMeas.ck_ok [t]).2.2
              constructor <;> omega
            · have := World.ownsRow.lt hDf k hk
              exact ⟨this.2, by omega⟩
end Go.Proofs.YtaiackmmmlhgbaaGreat.BNp

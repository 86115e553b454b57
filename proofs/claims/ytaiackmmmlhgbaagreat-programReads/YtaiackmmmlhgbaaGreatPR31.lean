import Derived.ProofKit
import Derived.Test.YtaiackmmmlhgbaaGreatPR06
import Derived.Test.YtaiackmmmlhgbaaGreatPR11
import Derived.Test.YtaiackmmmlhgbaaGreatPR18
import Derived.Test.YtaiackmmmlhgbaaGreatPR20
import Derived.Test.YtaiackmmmlhgbaaGreatPR21
import Derived.Test.YtaiackmmmlhgbaaGreatPR30
open Go.Proofs.Tryz
set_option linter.unusedVariables false
set_option maxRecDepth 20000
set_option maxHeartbeats 3200000
namespace Go.Proofs.YtaiackmmmlhgbaaGreat.YSp
open Go.RowKit YPl YRr YSm
theorem bdn {B : Nat} {a w : World} (h : Below B a w) (n : Nat) : Below B a (w.drewN n) := h.trans ⟨rfl, rfl, rfl, Nat.le_refl _, fun _ _ => rfl⟩
theorem rr_i {K : Nat} {w w' : World} {v : Value} {l : List Int} (h : Rr 1 LyI K w v l) (hb : Below K w w') : Rr 1 LyI K w' v l := h.keep (Nat.le_refl _) fun g o x _ hg h => h.below hb hg
theorem rr_o {K : Nat} {w w' : World} {v : Value} {l : List Oq} (h : Rr 5 (LyO K) K w v l) (hb : Below K w w') : Rr 5 (LyO K) K w' v l := h.keep (Nat.le_refl _) fun g o x _ hg h => h.below hb hg
theorem rr_sl {α : Type} {n K : Nat} {Ly : World -> Nat -> Nat -> α -> Prop} {w : World} {v : Value} {l : List α} (h : Rr n Ly K w v l) : ∃ a c, v = .slice a l.length c := by obtain ⟨a, c, h, -⟩ := h; exact ⟨a, c, h⟩
theorem same_op {K : Nat} {w : World} {u v : Value} (x : Oq) (hu : Rr 1 LyI K w u x.l) (hv : Rr 1 LyI K w v x.l) (hK : K <= w.heap.size) :
    Calls prog 168 #[.agg #[.int .i64 x.k, .int .i64 x.a, .int .i64 x.b, .int .i64 x.c, u], .agg #[.int .i64 x.k, .int .i64 x.a, .int .i64 x.b, .int .i64 x.c, v]] w fun e w' => e = .returned (.bool true) /\ Below w.heap.size w w' := by
  obtain ⟨ua, uc, rfl⟩ := rr_sl hu
  obtain ⟨va, vc, rfl⟩ := rr_sl hv
  obtain ⟨W0, hW0⟩ : ∃ W0, (w.alloc (.cells #[.int .i64 x.k, .int .i64 x.a, .int .i64 x.b, .int .i64 x.c, .slice ua x.l.length uc] 127)).alloc (.cells #[.int .i64 x.k, .int .i64 x.a, .int .i64 x.b, .int .i64 x.c, .slice va x.l.length vc] 127) = W0 := ⟨_, rfl⟩
  have hb0 : Below w.heap.size w W0 := by rw [<- hW0]; exact ((Below.refl _ w).alloc (Nat.le_refl _) _).alloc (by simp) _
  have hx0 : W0.heap[w.heap.size]? = some (.cells #[.int .i64 x.k, .int .i64 x.a, .int .i64 x.b, .int .i64 x.c, .slice ua x.l.length uc] 127 (0, 0)) := by
    rw [<- hW0, Below.heap_alloc _ _ _ (by simp), heap_alloc_new]
  have hx1 : W0.heap[w.heap.size + 1]? = some (.cells #[.int .i64 x.k, .int .i64 x.a, .int .i64 x.b, .int .i64 x.c, .slice va x.l.length vc] 127 (0, 0)) := by
    have := heap_alloc_new (w.alloc (.cells #[.int .i64 x.k, .int .i64 x.a, .int .i64 x.b, .int .i64 x.c, .slice ua x.l.length uc] 127)) (.cells #[.int .i64 x.k, .int .i64 x.a, .int .i64 x.b, .int .i64 x.c, .slice va x.l.length vc] 127)
    rwa [hW0, World.size_alloc] at this
  have cI := same_i (rr_i hu (hb0.mono hK)) (rr_i hv (hb0.mono hK)) (Nat.le_trans hK hb0.size)
  have d0 := cell_of hx0 0 _ rfl
  have d1 := cell_of hx0 1 _ rfl
  have d2 := cell_of hx0 2 _ rfl
  have d3 := cell_of hx0 3 _ rfl
  have d4 := cell_of hx0 4 _ rfl
  have e0 := cell_of hx1 0 _ rfl
  have e1 := cell_of hx1 1 _ rfl
  have e2 := cell_of hx1 2 _ rfl
  have e3 := cell_of hx1 3 _ rfl
  have e4 := cell_of hx1 4 _ rfl
  have HB : Hid _ := hb0
  clear hx0 hx1 hb0 hu hv
  go_enter func168, ntmps168
  go_wp2_with fail
  try rw [hW0]
  refine cI.mono ?_
  rintro e w1 ⟨rfl, k, rfl⟩
  go_wp2_with fail
  go_ret
  exact ⟨rfl, bdn HB.out k⟩
theorem same_os {K : Nat} {w : World} {u v : Value} {l : List Oq} (hu : Rr 5 (LyO K) K w u l) (hv : Rr 5 (LyO K) K w v l) (hK : K <= w.heap.size) :
    Calls prog 118 #[u, v] w fun e w' => e = .returned (.bool true) /\ Below w.heap.size w w' := by
  obtain ⟨a, cap, rfl, hlc, hcm, hlb, hnil, hrow⟩ := hu
  obtain ⟨a', cap', rfl, hlc', hcm', -, hnil', hrow'⟩ := hv
  have HR : Hid _ := hrow
  have HR' : Hid _ := hrow'
  clear hrow hrow'
  go_enter func118, ntmps118
  go_wp2_with fail
  go_loopw [5] (fun i wr => ∃ q : Nat, i = .int .i64 q /\ q <= l.length /\ Below w.heap.size w wr) (fun i _ => l.length - (intOf i).toNat)
  case atStart => exact ⟨0, rfl, by omega, Below.refl _ _⟩
  case round =>
    obtain ⟨q, rfl, hq, hb⟩ := hrel
    by_cases hlt : q < l.length
    · rcases HR.out with h0 | ⟨g, o, rfl, hg, hc⟩
      · rw [h0] at hlt; simp at hlt
      rcases HR'.out with h0 | ⟨g', o', rfl, hg', hc'⟩
      · rw [h0] at hlt; simp at hlt
      have bK := hb.mono hK
      have he := (hc q hlt).below bK hg
      have hf := (hc' q hlt).below bK hg'
      obtain ⟨x, hx⟩ : ∃ x, l[q] = x := ⟨_, rfl⟩
      rw [hx] at he hf
      obtain ⟨y, p0, p1, p2, p3, p4, -, pr⟩ := he
      obtain ⟨z, q0, q1, q2, q3, q4, -, qr⟩ := hf
      have hd := (Below.refl wr.heap.size wr).drew
      have hKw := Nat.le_trans hK hb.size
      have cS := same_op (w := wr.drew) x (rr_i pr (hd.mono hKw)) (rr_i qr (hd.mono hKw)) hKw
      obtain ⟨ya, yc, rfl⟩ := rr_sl pr
      obtain ⟨za, zc, rfl⟩ := rr_sl qr
      clear pr qr
      clear hc hc' bK
      go_wp2_with fail
      go_region_with (go_at_call 168; refine cS.mono ?_; rintro e w1 ⟨rfl, b1⟩)
      all_goals go_wp2_with fail
      all_goals go_roundw
      all_goals first
        | (case rel => exact ⟨q + 1, by go_num, by omega, hb.drew.trans (b1.mono hb.size)⟩)
        | (case measure => simp only [intOf]; omega)
    · have hlt' : decide ((q : Int) < (l.length : Int)) = false := by simp; omega
      go_wp2_with fail
      go_ret
      exact ⟨rfl, hb⟩
theorem same_bk {K : Nat} {w : World} {u v u' v' : Value} (x : Bk) (hu : Rr 5 (LyO K) K w u x.o) (hv : Rr 5 (LyO K) K w v x.o) (hu' : Rr 1 LyI K w u' x.u) (hv' : Rr 1 LyI K w v' x.u) (hK : K <= w.heap.size) :
    Calls prog 72 #[.agg #[.int .i64 x.d, u, u'], .agg #[.int .i64 x.d, v, v']] w fun e w' => e = .returned (.bool true) /\ Below w.heap.size w w' := by
  obtain ⟨ua, uc, rfl⟩ := rr_sl hu
  obtain ⟨va, vc, rfl⟩ := rr_sl hv
  obtain ⟨xa, xc, rfl⟩ := rr_sl hu'
  obtain ⟨ya, yc, rfl⟩ := rr_sl hv'
  obtain ⟨A, hA⟩ : ∃ A, Obj.cells #[.int .i64 x.d, .slice ua x.o.length uc, .slice xa x.u.length xc] 74 (0, 0) = A := ⟨_, rfl⟩
  obtain ⟨B, hB⟩ : ∃ B, Obj.cells #[.int .i64 x.d, .slice va x.o.length vc, .slice ya x.u.length yc] 74 (0, 0) = B := ⟨_, rfl⟩
  obtain ⟨W0, hW0⟩ : ∃ W0, (w.alloc A).alloc B = W0 := ⟨_, rfl⟩
  have hb0 : Below w.heap.size w W0 := by rw [<- hW0]; exact ((Below.refl _ w).alloc (Nat.le_refl _) _).alloc (by simp) _
  have hz0 : W0.heap.size = w.heap.size + 2 := by rw [<- hW0]; simp
  have hx0 : W0.heap[w.heap.size]? = some A := by rw [<- hW0, Below.heap_alloc _ _ _ (by simp), heap_alloc_new]
  have hx1 : W0.heap[w.heap.size + 1]? = some B := by
    have := heap_alloc_new (w.alloc A) B
    rwa [hW0, World.size_alloc] at this
  rw [<- hA] at hx0
  rw [<- hB] at hx1
  have cO := same_os (rr_o hu (hb0.mono hK)) (rr_o hv (hb0.mono hK)) (Nat.le_trans hK hb0.size)
  have cI := fun W1 (hb1 : Below W0.heap.size W0 W1) => same_i (rr_i (rr_i hu' (hb0.mono hK)) (hb1.mono (Nat.le_trans hK hb0.size))) (rr_i (rr_i hv' (hb0.mono hK)) (hb1.mono (Nat.le_trans hK hb0.size))) (Nat.le_trans hK (Nat.le_trans hb0.size hb1.size))
  have d0 := cell_of hx0 0 _ rfl
  have d1 := cell_of hx0 1 _ rfl
  have e0 := cell_of hx1 0 _ rfl
  have e1 := cell_of hx1 1 _ rfl
  have HB : Hid _ := hb0
  have HX0 : Hid _ := hx0
  have HX1 : Hid _ := hx1
  clear hx0 hx1 hb0 hu hv hu' hv'
  go_enter func72, ntmps72
  go_wp2_with fail
  try rw [hA, hB]
  try rw [hW0]
  refine cO.mono ?_
  rintro e W1 ⟨rfl, b1⟩
  have cI := cI W1 b1
  have d2 := cell_of ((b1.block w.heap.size (by omega)).trans HX0.out) 2 _ rfl
  have e2 := cell_of ((b1.block (w.heap.size + 1) (by omega)).trans HX1.out) 2 _ rfl
  have HB1 : Hid (Below w.heap.size w W1) := HB.out.trans (b1.mono HB.out.size)
  clear cO b1 d0 d1 e0 e1 hW0 hA hB
  go_wp2_with fail
  refine cI.mono ?_
  rintro e w1 ⟨rfl, k, rfl⟩
  go_wp2_with fail
  go_ret
  exact ⟨rfl, bdn HB1.out k⟩
theorem same_bs {K : Nat} {w : World} {u v : Value} {l : List Bk} (hu : Rr 3 (LyB K) K w u l) (hv : Rr 3 (LyB K) K w v l) (hK : K <= w.heap.size) :
    Calls prog 32 #[u, v] w fun e w' => e = .returned (.bool true) /\ Below w.heap.size w w' := by
  obtain ⟨a, cap, rfl, hlc, hcm, hlb, hnil, hrow⟩ := hu
  obtain ⟨a', cap', rfl, hlc', hcm', -, hnil', hrow'⟩ := hv
  have HR : Hid _ := hrow
  have HR' : Hid _ := hrow'
  clear hrow hrow'
  go_enter func32, ntmps32
  go_wp2_with fail
  go_loopw [5] (fun i wr => ∃ q : Nat, i = .int .i64 q /\ q <= l.length /\ Below w.heap.size w wr) (fun i _ => l.length - (intOf i).toNat)
  case atStart => exact ⟨0, rfl, by omega, Below.refl _ _⟩
  case round =>
    obtain ⟨q, rfl, hq, hb⟩ := hrel
    by_cases hlt : q < l.length
    · rcases HR.out with h0 | ⟨g, o, rfl, hg, hc⟩
      · rw [h0] at hlt; simp at hlt
      rcases HR'.out with h0 | ⟨g', o', rfl, hg', hc'⟩
      · rw [h0] at hlt; simp at hlt
      have bK := hb.mono hK
      have he := (hc q hlt).below bK hg
      have hf := (hc' q hlt).below bK hg'
      obtain ⟨x, hx⟩ : ∃ x, l[q] = x := ⟨_, rfl⟩
      rw [hx] at he hf
      obtain ⟨y, y', p0, p1, p2, -, pr, pr'⟩ := he
      obtain ⟨z, z', q0, q1, q2, -, qr, qr'⟩ := hf
      have hd := (Below.refl wr.heap.size wr).drew
      have hKw := Nat.le_trans hK hb.size
      have cS := same_bk (w := wr.drew) x (rr_o pr (hd.mono hKw)) (rr_o qr (hd.mono hKw)) (rr_i pr' (hd.mono hKw)) (rr_i qr' (hd.mono hKw)) hKw
      obtain ⟨ya, yc, rfl⟩ := rr_sl pr
      obtain ⟨za, zc, rfl⟩ := rr_sl qr
      obtain ⟨xa, xc, rfl⟩ := rr_sl pr'
      obtain ⟨ta, tc, rfl⟩ := rr_sl qr'
      clear pr qr pr' qr'
      clear hc hc' bK
      go_wp2_with fail
      go_region_with (go_at_call 72; refine cS.mono ?_; rintro e w1 ⟨rfl, b1⟩)
      all_goals go_wp2_with fail
      all_goals go_roundw
      all_goals first
        | (case rel => exact ⟨q + 1, by go_num, by omega, hb.drew.trans (b1.mono hb.size)⟩)
        | (case measure => simp only [intOf]; omega)
    · have hlt' : decide ((q : Int) < (l.length : Int)) = false := by simp; omega
      go_wp2_with fail
      go_ret
      exact ⟨rfl, hb⟩
end Go.Proofs.YtaiackmmmlhgbaaGreat.YSp
namespace Go.Proofs.YtaiackmmmlhgbaaGreat.YSt
open Go.RowKit TBase TKept
def Sms (m : Nat) : Prop := ∀ (u v : Value) (c : T) (w : World), In false All w m u c -> In false All w m v c ->
    Calls prog 71 #[u, v] w fun e w' => e = .returned (.bool true) /\ Below w.heap.size w w'
theorem sames_of (m : Nat) (hm : Sms m) (u v : Value) (l : List T) (w : World) (hu : InL false All w m u l) (hv : InL false All w m v l) :
    Calls prog 31 #[u, v] w fun e w' => e = .returned (.bool true) /\ Below w.heap.size w w' := by
  obtain ⟨a, cap, rfl, hlc, hcm, hlen, hnil, hN⟩ := hu
  obtain ⟨a', cap', rfl, hlc', hm', -, hnil', hN'⟩ := hv
  go_enter func31, ntmps31
  go_wp2_with fail
  go_loopw [5] (fun i wr => ∃ q : Nat, q <= l.length /\ i = .int .i64 q /\ Below w.heap.size w wr) (fun i _ => l.length - (intOf i).toNat)
  case atStart => exact ⟨0, by omega, rfl, Below.refl _ _⟩
  case round =>
    obtain ⟨q, hq, rfl, hb⟩ := hrel
    by_cases hlt : q < l.length
    · obtain ⟨g, o, x, rfl, -, hx, hin⟩ := elem_at hN hlt
      obtain ⟨g', o', y, rfl, -, hy, hin'⟩ := elem_at hN' hlt
      have hd := (Below.refl wr.heap.size wr).drew
      have c18 := hm x y l[q] wr.drew ((hin.below hb).below hd) ((hin'.below hb).below hd)
      have hx := four_below hx hb
      have hy := four_below hy hb
      obtain ⟨x0, x1, x2, x3, rfl, d0, d1, d2, d3⟩ := hx
      obtain ⟨y0, y1, y2, y3, rfl, e0, e1, e2, e3⟩ := hy
      clear hN hN' hin hin' hm
      go_wp2_with fail
      go_region_with (go_at_call 71; refine c18.mono ?_; rintro e w1 ⟨rfl, b1⟩)
      all_goals go_wp2_with fail
      all_goals go_roundw
      all_goals first
        | (case rel => exact ⟨q + 1, by omega, by go_num, hb.drew.trans (b1.mono hb.size)⟩)
        | (case measure => simp only [intOf]; omega)
    · have hlt' : decide ((q : Int) < (l.length : Int)) = false := by simp; omega
      go_wp2_with fail
      go_ret
      exact ⟨rfl, hb⟩
theorem same_of (m : Nat) (hm : ∀ (u v : Value) (l : List T) (w : World), InL false All w m u l -> InL false All w m v l -> Calls prog 31 #[u, v] w fun e w' => e = .returned (.bool true) /\ Below w.heap.size w w') : Sms (m + 1) := by
  intro u v c w hu hv
  obtain ⟨g, s, n, l⟩ := c
  rw [in_iff] at hu hv
  obtain ⟨nv, lv, rfl, hg, hs, hn, hl⟩ := hu
  obtain ⟨nv', lv', rfl, -, -, hn', hl'⟩ := hv
  obtain ⟨W0, hW0⟩ : ∃ W0, (w.alloc (.cells #[.string g, .string s, nv, lv] 68)).alloc (.cells #[.string g, .string s, nv', lv'] 68) = W0 := ⟨_, rfl⟩
  have hb0 : Below w.heap.size w W0 := by rw [<- hW0]; exact ((Below.refl _ w).alloc (Nat.le_refl _) _).alloc (by simp) _
  have hsz0 : W0.heap.size = w.heap.size + 2 := by rw [<- hW0]; simp
  have hx0 : W0.heap[w.heap.size]? = some (.cells #[.string g, .string s, nv, lv] 68) := by
    rw [<- hW0, Below.heap_alloc _ _ _ (by simp), heap_alloc_new]
  have hx1 : W0.heap[w.heap.size + 1]? = some (.cells #[.string g, .string s, nv', lv'] 68) := by
    have := heap_alloc_new (w.alloc (.cells #[.string g, .string s, nv, lv] 68)) (.cells #[.string g, .string s, nv', lv'] 68)
    rwa [hW0, World.size_alloc] at this
  have c50 := sameA_c nv nv' n W0 (hn.below hb0) (hn'.below hb0)
  obtain ⟨d0, d1, d2, d3⟩ := four_box hx0
  obtain ⟨e0, e1, e2, e3⟩ := four_box hx1
  go_enter func71, ntmps71
  go_wp2_with fail
  refine c50.mono ?_
  rintro e w1 ⟨rfl, b1⟩
  have k5 := (four_box ((b1.block w.heap.size (by omega)).trans hx0)).2.2.2
  have j5 := (four_box ((b1.block (w.heap.size + 1) (by omega)).trans hx1)).2.2.2
  have c51 := hm lv lv' l w1 ((hl.below hb0).below b1) ((hl'.below hb0).below b1)
  clear c50 hx0 hx1 hW0
  go_wp2_with fail
  refine c51.mono ?_
  rintro e w2 ⟨rfl, b2⟩
  go_wp2_with fail
  go_ret
  exact ⟨rfl, nx (nx hb0 b1) b2⟩
theorem smsAll : ∀ m, Sms m := by
  intro m
  induction m with
  | zero => intro u v c w h; rw [In] at h; exact h.elim
  | succ m ih => exact same_of m (sames_of m ih)
theorem same_t {S S' : Nat -> Prop} {m m' : Nat} {u v : Value} {l : List T} {w : World} (hu : InL false S w m u l) (hv : InL false S' w m' v l) :
    Calls prog 31 #[u, v] w fun e w' => e = .returned (.bool true) /\ Below w.heap.size w w' :=
  sames_of (max m m') (smsAll _) u v l w (hu.weak (fun _ _ => trivial) false id _ (Nat.le_max_left _ _)) (hv.weak (fun _ _ => trivial) false id _ (Nat.le_max_right _ _))
open YPl YRr YSm YSp YEn in
theorem same_pg {K m m' : Nat} {w : World} {u v : Value} {x : Pg} (hu : InPg K m w u x) (hv : InPg K m' w v x) (hK : K <= w.heap.size) :
    Calls prog 9 #[u, v] w fun e w' => e = .returned (.bool true) /\ Below w.heap.size w w' := by
  have hu0 := hu
  have hv0 := hv
  obtain ⟨a, n1, c1, b, n2, c2, c, n3, c3, d, n4, c4, rfl, -⟩ := hu0
  obtain ⟨a', n1', c1', b', n2', c2', c', n3', c3', d', n4', c4', rfl, -⟩ := hv0
  obtain ⟨A, hA⟩ : ∃ A, Obj.cells #[.slice a n1 c1, .slice b n2 c2, .slice c n3 c3, .slice d n4 c4] 29 (0, 0) = A := ⟨_, rfl⟩
  obtain ⟨B, hB⟩ : ∃ B, Obj.cells #[.slice a' n1' c1', .slice b' n2' c2', .slice c' n3' c3', .slice d' n4' c4'] 29 (0, 0) = B := ⟨_, rfl⟩
  obtain ⟨W0, hW0⟩ : ∃ W0, (w.alloc A).alloc B = W0 := ⟨_, rfl⟩
  have hb0 : Below w.heap.size w W0 := by rw [<- hW0]; exact ((Below.refl _ w).alloc (Nat.le_refl _) _).alloc (by simp) _
  have hz0 : W0.heap.size = w.heap.size + 2 := by rw [<- hW0]; simp
  have hx0 : W0.heap[w.heap.size]? = some A := by rw [<- hW0, Below.heap_alloc _ _ _ (by simp), heap_alloc_new]
  have hx1 : W0.heap[w.heap.size + 1]? = some B := by
    have := heap_alloc_new (w.alloc A) B
    rwa [hW0, World.size_alloc] at this
  rw [<- hA] at hx0
  rw [<- hB] at hx1
  have parts : ∀ W, Below K w W -> (Rr 1 LyS K W (.slice a n1 c1) x.t /\ Rr 1 (LyC K) K W (.slice b n2 c2) x.c /\ TBase.InL false (TVisit.Lo K) W m (.slice c n3 c3) x.s /\ Rr 3 (LyB K) K W (.slice d n4 c4) x.b) /\
      (Rr 1 LyS K W (.slice a' n1' c1') x.t /\ Rr 1 (LyC K) K W (.slice b' n2' c2') x.c /\ TBase.InL false (TVisit.Lo K) W m' (.slice c' n3' c3') x.s /\ Rr 3 (LyB K) K W (.slice d' n4' c4') x.b) := by
    intro W hb
    constructor
    · obtain ⟨_, _, _, _, _, _, _, _, _, _, _, _, e, h⟩ := hu.below hb
      cases e
      exact h
    · obtain ⟨_, _, _, _, _, _, _, _, _, _, _, _, e, h⟩ := hv.below hb
      cases e
      exact h
  have HP : Hid _ := parts
  have HB : Hid _ := hb0
  have bK0 := hb0.mono hK
  have cT := same_s (parts W0 bK0).1.1 (parts W0 bK0).2.1 (Nat.le_trans hK hb0.size)
  have d0 := cell_of hx0 0 _ rfl
  have d1 := cell_of hx0 1 _ rfl
  have d2 := cell_of hx0 2 _ rfl
  have e0 := cell_of hx1 0 _ rfl
  have e1 := cell_of hx1 1 _ rfl
  have e2 := cell_of hx1 2 _ rfl
  have HX0 : Hid _ := hx0
  have HX1 : Hid _ := hx1
  clear hx0 hx1 hb0 hu hv parts
  go_enter func9, ntmps9
  go_wp2_with fail
  try rw [hA, hB]
  try rw [hW0]
  refine cT.mono ?_
  rintro e w1 ⟨rfl, k, rfl⟩
  have b1 : Below w.heap.size w (W0.drewN k) := bdn HB.out k
  have cC := same_c (HP.out _ (b1.mono hK)).1.2.1 (HP.out _ (b1.mono hK)).2.2.1 (Nat.le_trans hK b1.size)
  have HB1 : Hid _ := b1
  clear cT b1 bK0
  go_wp2_with fail
  refine cC.mono ?_
  rintro e w1 ⟨rfl, k', rfl⟩
  have b1 : Below w.heap.size w (W0.drewN (k + k')) := bdn HB.out _
  have cS := same_t (HP.out _ (b1.mono hK)).1.2.2.1 (HP.out _ (b1.mono hK)).2.2.2.1
  have HB2 : Hid _ := b1
  clear cC b1
  go_wp2_with fail
  refine cS.mono ?_
  rintro e W1 ⟨rfl, b2⟩
  have b1 : Below w.heap.size w W1 := HB2.out.trans (b2.mono HB2.out.size)
  have b3 : Below W0.heap.size W0 W1 := (bdn (Below.refl _ W0) _).trans b2
  have cB := same_bs (HP.out _ (b1.mono hK)).1.2.2.2 (HP.out _ (b1.mono hK)).2.2.2.2 (Nat.le_trans hK b1.size)
  have d3 := cell_of ((b3.block w.heap.size (by omega)).trans HX0.out) 3 _ rfl
  have e3 := cell_of ((b3.block (w.heap.size + 1) (by omega)).trans HX1.out) 3 _ rfl
  have HB3 : Hid _ := b1
  clear cS b1 b2 b3 d0 d1 d2 e0 e1 e2 hW0 hA hB
  go_wp2_with fail
  refine cB.mono ?_
  rintro e W2 ⟨rfl, b2⟩
  go_wp2_with fail
  go_ret
  exact ⟨rfl, HB3.out.trans (b2.mono HB3.out.size)⟩
end Go.Proofs.YtaiackmmmlhgbaaGreat.YSt
namespace Go.Proofs.YtaiackmmmlhgbaaGreat.YAk
open Go.RowKit Leb YPl YRd
theorem enc_0 : enc ⟨[], [], [], []⟩ = .ok [1, 0, 0, 0, 0] := by
  have h0 : putL 0 = [0] := putL_small (by omega)
  simp [enc, prg, oct, lst, lis, cnt, cat, h0, pts, pt]
theorem dec_4 : dec [1, 0, 0, 0] = .error (4, 2100) := by rfl
theorem ver_a : UBase.verr (sub [1, 1, 1, 97, 0, 0, 0] 3 1) = 0 := by decide +kernel
abbrev ba : By := [1, 1, 1, 97, 0, 0, 0]
theorem txt_a : rtxt ba 2 = .ok (⟨#[97]⟩, 4) := by
  unfold rtxt
  rw [show rcnt 4096 ba 2 = .ok (1, 3) from rfl]
  simp only [bnd]
  rw [if_neg (by decide), if_pos ver_a]
  rfl
theorem lst_a : rlst 16384 (rtxt ba) ba 1 = .ok ([⟨#[97]⟩], 4) := by
  unfold rlst
  rw [show rcnt 16384 ba 1 = .ok (1, 2) from rfl]
  simp only [bnd, rmany, txt_a]
theorem prg_a : rprg ba = .ok (⟨[⟨#[97]⟩], [], [], []⟩, 7) := by
  unfold rprg
  rw [show roct ba 0 = .ok (1, 1) from rfl]
  simp only [bnd]
  rw [if_pos trivial, lst_a]
  simp only
  rw [show rlst 8192 (rlst 8192 (rins ba) ba) ba 4 = .ok ([], 5) from rfl]
  simp only
  rw [show rlstT 4096 (fun p _ => rnd ba 64 p 0) ba 5 0 = .ok ([], 6, 0) from rfl]
  simp only
  rw [show rlst 8192 (rblk ba) ba 6 = .ok ([], 7) from rfl]
  simp only
  rw [if_neg (by decide)]
theorem dec_a : dec ba = .ok ⟨[⟨#[97]⟩], [], [], []⟩ := by
  unfold dec
  rw [if_neg (by decide), prg_a]
end Go.Proofs.YtaiackmmmlhgbaaGreat.YAk
namespace Go.Proofs.YtaiackmmmlhgbaaGreat.YRq
open Go.RowKit YPl YRd YWr YRr YRs YRb YRl YRt YRn YRp
open TBase (T Keep)
def RPg (K R : Nat) (b : By) (a : Rs Pg) (w : World) (e : Ending) (w' : World) : Prop := Gx R w w' /\ match a with
  | .ok (x, q) => ∃ v, e = .returned v /\ HvP (fun g => w.heap.size <= g /\ g < w'.heap.size) w' v x
  | .error q => e = .panicked (pkF 2100 q)
theorem box4 (w : World) (a b c d x y z u : Value) (t : TypeId) : ((((w.alloc (.cells #[a, b, c, d] t)).setCell ⟨w.heap.size, 0, none⟩ x).setCell ⟨w.heap.size, 1, none⟩ y).setCell ⟨w.heap.size, 2, none⟩ z).setCell ⟨w.heap.size, 3, none⟩ u = w.alloc (.cells #[x, y, z, u] t) := TPure.box4 w a b c d x y z u t
theorem program_c {K R : Nat} {w : World} {b : By} (h : Rb K w R b 0 0) :
    Calls prog 21 #[ptw R] w fun e w' => RPg K R b (rprg b) w e w' := by
  have hmf : ∀ (fn : Fn) (first cap : Array Value) (w : World), (Instr.makeFunc fn first cap).run prog w = .ok (.func fn first cap) w := fun _ _ _ _ => rfl
  have hRlt := h.lt
  obtain ⟨W0, hW0⟩ : ∃ W, w.alloc (.cells #[.slice none 0 0, .slice none 0 0, .slice none 0 0, .slice none 0 0] 29) = W := ⟨_, rfl⟩
  have b0 : Below w.heap.size w W0 := by rw [<- hW0]; exact (Below.refl _ w).alloc (Nat.le_refl _) _
  have s0 : W0.heap.size = w.heap.size + 1 := by rw [<- hW0]; simp
  have g0 : W0.heap[w.heap.size]? = some (.cells #[.slice none 0 0, .slice none 0 0, .slice none 0 0, .slice none 0 0] 29 (0, 0)) := by rw [<- hW0]; exact heap_alloc_new w _
  have G0 : Hid (Gx R w W0 /\ Gx R W0 W0 /\ Rb K W0 R b 0 0) := ⟨Gx.of b0, Gx.refl _ _, Rb.below h b0⟩
  have HZ : Hid (∀ W, Gx R W0 W -> W.heap[w.heap.size]? = some (.cells #[.slice none 0 0, .slice none 0 0, .slice none 0 0, .slice none 0 0] 29 (0, 0))) := fun W hg => (hg.block _ (by omega) (fun e => by cases e; omega)).trans g0
  have c0 := octet_c G0.out.2.2
  clear h b0 g0
  go_enter func21, ntmps21
  go_wp2_with fail
  try rw [hW0]
  refine c0.mono ?_
  rintro e W1 ⟨q1, hA⟩
  cases hE0 : roct b 0 with
  | error z =>
    rw [hE0] at hA
    obtain rfl := hA
    exact ⟨rfl, by rw [show rprg b = .error z by simp only [rprg, hE0, bnd]]; exact ⟨Gx.trans G0.out.1 q1, rfl⟩⟩
  | ok t =>
  obtain ⟨x0, p1⟩ := t
  rw [hE0] at hA
  obtain ⟨v0, rfl, ⟨rfl, hb0⟩, hR1⟩ := hA
  have G1 : Hid (Gx R w W1 /\ Gx R W0 W1 /\ Rb K W1 R b p1 0) := ⟨Gx.trans G0.out.1 q1, Gx.trans G0.out.2.1 q1, hR1⟩
  clear c0 q1 hR1
  by_cases hv : x0 = 1
  · subst hv
    have c1 := YRa.rl_s 16384 (by omega) (rtxt b) G1.out.2.2 (show _ from fun W q h _ => YRx.text_c h)
    go_wp2_with fail
    refine c1.mono ?_
    rintro e W2 ⟨q2, hA⟩
    cases hE1 : rlst 16384 (rtxt b) b p1 with
    | error z =>
      rw [hE1] at hA
      obtain rfl := hA
      exact ⟨rfl, by rw [show rprg b = .error z by simp only [rprg, hE0, hE1, bnd, if_true]]; exact ⟨Gx.trans G1.out.1 q2, rfl⟩⟩
    | ok t =>
    obtain ⟨x1, p2⟩ := t
    rw [hE1] at hA
    obtain ⟨v1, rfl, hv1, hR2⟩ := hA
    have L12 : Hid (W1.heap.size <= W2.heap.size) := q2.size
    have HV1 : Hid _ := hv1
    obtain ⟨a1, n1, d1, rfl⟩ := RrS.slice hv1
    have G2 : Hid (Gx R w W2 /\ Gx R W0 W2 /\ Rb K W2 R b p2 0) := ⟨Gx.trans G1.out.1 q2, Gx.trans G1.out.2.1 q2, hR2⟩
    clear c1 q2 hR2 hv1
    have c2 := YRf.rl_c 8192 (by omega) (rlst 8192 (rins b) b) G2.out.2.2 (show _ from fun W q h _ => YRg.code_c h)
    go_wp2_with fail
    refine c2.mono ?_
    rintro e W3 ⟨q3, hA⟩
    cases hE2 : rlst 8192 (rlst 8192 (rins b) b) b p2 with
    | error z =>
      rw [hE2] at hA
      obtain rfl := hA
      exact ⟨rfl, by rw [show rprg b = .error z by simp only [rprg, hE0, hE1, hE2, bnd, if_true]]; exact ⟨Gx.trans G2.out.1 q3, rfl⟩⟩
    | ok t =>
    obtain ⟨x2, p3⟩ := t
    rw [hE2] at hA
    obtain ⟨v2, rfl, hv2, hR3⟩ := hA
    have HV2 : Hid _ := hv2
    obtain ⟨a2, n2, d2, rfl⟩ := RrS.slice hv2
    have G3 : Hid (Gx R w W3 /\ Gx R W0 W3 /\ Rb K W3 R b p3 0 /\ Gx R W2 W3) := ⟨Gx.trans G2.out.1 q3, Gx.trans G2.out.2.1 q3, hR3, q3⟩
    clear c2 q3 hR3 hv2
    have c3 := YRt.rl_t (m := 65) 4096 (by omega) (fun p _ => YRd.rnd b 64 p 0) G3.out.2.2.1 (by omega) (show _ from fun W q k' h _ _ => static_c h)
    have HE2 : Hid (rprg b = match rlstT 4096 (fun p _ => YRd.rnd b 64 p 0) b p3 0 with
      | .error q => .error q
      | .ok (s, q, _) => bnd (rlst 8192 (rblk b) b q) fun k q => if q < b.length then .error q else .ok (⟨x1, x2, s, k⟩, q)) := by
      show _ = _
      simp only [rprg, hE0, hE1, hE2, bnd, if_true]
      cases rlstT 4096 (fun p _ => YRd.rnd b 64 p 0) b p3 0 with
      | error z => rfl
      | ok t => obtain ⟨s, q, k⟩ := t; rfl
    obtain ⟨AA, hAA⟩ : ∃ A, rlstT 4096 (fun p _ => YRd.rnd b 64 p 0) b p3 0 = A := ⟨_, rfl⟩
    rw [hAA] at c3 HE2
    clear hAA hE0 hE1 hE2
    go_wp2_with fail
    refine c3.mono ?_
    rintro e W4 ⟨q4, hA⟩
    cases AA with
    | error z =>
      obtain rfl := hA
      exact ⟨rfl, by rw [HE2.out]; exact ⟨Gx.trans G3.out.1 q4, rfl⟩⟩
    | ok t =>
    obtain ⟨x3, p4, k4⟩ := t
    obtain ⟨v3, rfl, hv3, hR4, hk4⟩ := hA
    have HV3 : Hid _ := hv3
    obtain ⟨a3, n3, d3, rfl⟩ : ∃ a n c, v3 = .slice a n c := by obtain ⟨a, c, h, -⟩ := hv3; exact ⟨_, _, _, h⟩
    have G4 : Hid (Gx R w W4 /\ Gx R W0 W4 /\ Rb K W4 R b p4 k4 /\ Gx R W3 W4) := ⟨Gx.trans G3.out.1 q4, Gx.trans G3.out.2.1 q4, hR4, q4⟩
    have HE3 : Hid (rprg b = bnd (rlst 8192 (rblk b) b p4) fun k q => if q < b.length then .error q else .ok (⟨x1, x2, x3, k⟩, q)) := HE2.out
    clear c3 q4 hR4 hv3 HE2
    have c4 := YRf.rl_b 8192 (by omega) (rblk b) G4.out.2.2.1 (show _ from fun W q h _ => YRg.block_c h)
    go_wp2_with fail
    refine c4.mono ?_
    rintro e W5 ⟨q5, hA⟩
    cases hE4 : rlst 8192 (rblk b) b p4 with
    | error z =>
      rw [hE4] at hA
      obtain rfl := hA
      exact ⟨rfl, by rw [HE3.out, hE4]; exact ⟨Gx.trans G4.out.1 q5, rfl⟩⟩
    | ok t =>
    obtain ⟨x4, p5⟩ := t
    rw [hE4] at hA
    obtain ⟨v4, rfl, hv4, hR5⟩ := hA
    have HV4 : Hid _ := hv4
    obtain ⟨a4, n4, d4, rfl⟩ := RrS.slice hv4
    have HE4 : Hid (rprg b = if p5 < b.length then .error p5 else .ok (⟨x1, x2, x3, x4⟩, p5)) := by show _ = _; rw [HE3.out, hE4]; rfl
    have G5 : Hid (Gx R w W5 /\ Gx R W0 W5 /\ Rb K W5 R b p5 k4 /\ Gx R W4 W5) := ⟨Gx.trans G4.out.1 q5, Gx.trans G4.out.2.1 q5, hR5, q5⟩
    clear c4 q5 hR5 hv4 HE3 hE4
    obtain ⟨Wz, hWz⟩ : ∃ W, W5.alloc (.cells #[.slice none 0 0, .slice none 0 0, .slice none 0 0, .slice none 0 0] 29) = W := ⟨_, rfl⟩
    obtain ⟨W6, hW6⟩ : ∃ W, W5.alloc (.cells #[.slice a1 n1 d1, .slice a2 n2 d2, .slice a3 n3 d3, .slice a4 n4 d4] 29) = W := ⟨_, rfl⟩
    have nz : Wz.heap[W5.heap.size]? = some (.cells #[.slice none 0 0, .slice none 0 0, .slice none 0 0, .slice none 0 0] 29 (0, 0)) := by rw [<- hWz]; exact heap_alloc_new W5 _
    have hWs : (((Wz.setCell ⟨W5.heap.size, 0, none⟩ (.slice a1 n1 d1)).setCell ⟨W5.heap.size, 1, none⟩ (.slice a2 n2 d2)).setCell ⟨W5.heap.size, 2, none⟩ (.slice a3 n3 d3)).setCell ⟨W5.heap.size, 3, none⟩ (.slice a4 n4 d4) = W6 := by rw [<- hWz, <- hW6]; exact box4 _ _ _ _ _ _ _ _ _ _
    have b6 : Below W5.heap.size W5 W6 := by rw [<- hW6]; exact (Below.refl _ W5).alloc (Nat.le_refl _) _
    have n6 : W6.heap[W5.heap.size]? = some (.cells #[.slice a1 n1 d1, .slice a2 n2 d2, .slice a3 n3 d3, .slice a4 n4 d4] 29 (0, 0)) := by rw [<- hW6]; exact heap_alloc_new W5 _
    have hR6 := Rb.below G5.out.2.2.1 b6
    have G6 : Hid (Gx R w W6 /\ Gx R W0 W6 /\ Gx R W5 W6) := ⟨Gx.trans G5.out.1 (Gx.of b6), Gx.trans G5.out.2.1 (Gx.of b6), Gx.of b6⟩
    have m6 := HZ.out W6 G6.out.2.1
    obtain ⟨-, -, -, -, -, ia, il, ic, h6, h7, -⟩ := hR6
    obtain rfl : il = b.length := by obtain ⟨a, c, e, -⟩ := h7; cases e; rfl
    have u0 := cell_of nz 0 _ rfl
    have u1 := cell_of nz 1 _ rfl
    have u2 := cell_of nz 2 _ rfl
    have u3 := cell_of nz 3 _ rfl
    have fz0 := TBase.frozen_box nz 0
    have fz1 := TBase.frozen_box nz 1
    have fz2 := TBase.frozen_box nz 2
    have fz3 := TBase.frozen_box nz 3
    have y0 := cell_of h6 0 _ rfl
    have y1 := cell_of h6 1 _ rfl
    have x60 := cell_of n6 0 _ rfl
    have x61 := cell_of n6 1 _ rfl
    have x62 := cell_of n6 2 _ rfl
    have x63 := cell_of n6 3 _ rfl
    have L : Hid (w.heap.size < W1.heap.size /\ W1.heap.size <= W2.heap.size /\ W2.heap.size <= W3.heap.size /\ W3.heap.size <= W4.heap.size /\ W4.heap.size <= W5.heap.size /\ W5.heap.size <= W6.heap.size) := ⟨by have := G1.out.2.1.size; omega, L12.out, G3.out.2.2.2.size, G4.out.2.2.2.size, G5.out.2.2.2.size, b6.size⟩
    have GX : Hid (Gx R W2 W6 /\ Gx R W3 W6 /\ Gx R W4 W6) := ⟨Gx.trans (Gx.trans (Gx.trans G3.out.2.2.2 G4.out.2.2.2) G5.out.2.2.2) (Gx.of b6), Gx.trans (Gx.trans G4.out.2.2.2 G5.out.2.2.2) (Gx.of b6), Gx.trans G5.out.2.2.2 (Gx.of b6)⟩
    have hz0 := cell_of m6 0 _ rfl
    have hz1 := cell_of m6 1 _ rfl
    have hz2 := cell_of m6 2 _ rfl
    have hz3 := cell_of m6 3 _ rfl
    have e0 := TBase.frozen_box m6 0
    have e1 := TBase.frozen_box m6 1
    have e2 := TBase.frozen_box m6 2
    have e3 := TBase.frozen_box m6 3
    have HM6 : Hid _ := m6
    clear h6 h7 nz hW6 b6 n6 m6
    by_cases hp : p5 < b.length
    · have HE : Hid (rprg b = .error p5) := by show _ = _; rw [HE4.out, if_pos hp]
      have hp' : (p5 : Int) < (b.length : Int) := by omega
      go_wp2_with fail
      try rw [hWs]
      go_quiet (fail)
      go_wp2_with fail
      refine (refuse_c _ _).mono ?_
      rintro e w9 ⟨rfl, rfl⟩
      exact ⟨rfl, by rw [HE.out]; exact ⟨Gx.drewN G6.out.1 _, rfl⟩⟩
    · have HE : Hid (rprg b = .ok (⟨x1, x2, x3, x4⟩, p5)) := by show _ = _; rw [HE4.out, if_neg hp]
      have hp' : ¬ (p5 : Int) < (b.length : Int) := by omega
      go_wp2_with fail
      try rw [hWs]
      go_quiet (fail)
      obtain ⟨W9, hW9⟩ : ∃ W, ((((W6.drewN nq).setCell ⟨w.heap.size, 0, none⟩ (.slice a1 n1 d1)).setCell ⟨w.heap.size, 1, none⟩ (.slice a2 n2 d2)).setCell ⟨w.heap.size, 2, none⟩ (.slice a3 n3 d3)).setCell ⟨w.heap.size, 3, none⟩ (.slice a4 n4 d4) = W := ⟨_, rfl⟩
      obtain ⟨hn, hg9⟩ := YRg.set4 _ _ _ _ (show (W6.drewN nq).heap[w.heap.size]? = _ from HM6.out) hW9
      have HN : Hid _ := hn
      have HG9 : Hid (Gx R w W9) := gx_row (Gx.drewN G6.out.1 nq) hg9 (fun r hr => by cases hr; exact Nat.le_refl _)
      have hl9 : W6.heap.size <= W9.heap.size := hg9.size
      obtain ⟨l1, l2, l3, l4, l5, l6⟩ := L.out
      have k1 : Keep (fun g => W1.heap.size <= g /\ g < W2.heap.size) W2 W9 := (fun g hg hl => (hg9.block g (show g < W6.heap.size by omega) (fun e => by have := Option.some.inj e; omega)).trans (GX.out.1.block g hl (fun e => by have := Option.some.inj e; omega)))
      have k2 : Keep (fun g => W2.heap.size <= g /\ g < W3.heap.size) W3 W9 := (fun g hg hl => (hg9.block g (show g < W6.heap.size by omega) (fun e => by have := Option.some.inj e; omega)).trans (GX.out.2.1.block g hl (fun e => by have := Option.some.inj e; omega)))
      have k3 : Keep (fun g => W3.heap.size <= g /\ g < W4.heap.size) W4 W9 := (fun g hg hl => (hg9.block g (show g < W6.heap.size by omega) (fun e => by have := Option.some.inj e; omega)).trans (GX.out.2.2.block g hl (fun e => by have := Option.some.inj e; omega)))
      have k4' : Keep (fun g => W4.heap.size <= g /\ g < W5.heap.size) W5 W9 := (fun g hg hl => (hg9.block g (show g < W6.heap.size by omega) (fun e => by have := Option.some.inj e; omega)).trans (G6.out.2.2.block g hl (fun e => by have := Option.some.inj e; omega)))
      have HH : Hid (HvP (fun g => w.heap.size <= g /\ g < W9.heap.size) W9 (.agg #[.slice a1 n1 d1, .slice a2 n2 d2, .slice a3 n3 d3, .slice a4 n4 d4]) ⟨x1, x2, x3, x4⟩) := ⟨_, _, _, _, _, _, _, _, _, _, _, _, rfl,
        RrS.keep HV1.out (fun g hg => by constructor <;> omega) (fun g o x _ hg h => kS (S := fun g => W1.heap.size <= g /\ g < W2.heap.size) k1 hg h),
        RrS.keep HV2.out (fun g hg => by constructor <;> omega) (fun g o x _ hg h => kC (S := fun g => W2.heap.size <= g /\ g < W3.heap.size) k2 (fun g hg => by constructor <;> omega) hg h),
        (TBase.InL.keep HV3.out k3).weak (fun g hg => by constructor <;> omega) false id 65 (Nat.le_refl _),
        RrS.keep HV4.out (fun g hg => by constructor <;> omega) (fun g o x _ hg h => kB (S := fun g => W4.heap.size <= g /\ g < W5.heap.size) k4' (fun g hg => by constructor <;> omega) hg h)⟩
      clear hn hg9 k1 k2 k3 k4'
      go_wp2_with fail
      try rw [hW9]
      refine bodyPost_ret (results_cell_row rfl _ W9 w.heap.size 29 _ (0, 0) _ rfl HN.out underlying29 rfl (by kernel_rfl)) rfl ?_
      rw [HE.out]
      exact ⟨HG9.out, _, rfl, HH.out⟩
  · have HE : Hid (rprg b = .error 0) := by show _ = _; simp only [rprg, hE0, bnd, hv, if_false]
    have hv1 : (x0 != 1) = true := by simp [hv]
    go_wp2_with fail
    refine (refuse_c _ _).mono ?_
    rintro e w9 ⟨rfl, rfl⟩
    exact ⟨rfl, by rw [HE.out]; exact ⟨G1.out.1, rfl⟩⟩
end Go.Proofs.YtaiackmmmlhgbaaGreat.YRq

import Derived.Test.YthjbknncbhkinaaGreatDoorPS06
import Derived.Test.YthjbknncbhkinaaGreatDoorPS39
import Derived.Test.YthjbknncbhkinaaGreatDoorPS42
import Derived.Test.YthjbknncbhkinaaGreatDoorPS50
import Derived.Test.YthjbknncbhkinaaGreatDoorPS51
import Derived.Test.YthjbknncbhkinaaGreatDoorPS52
open Go.Proofs.Tryz
set_option linter.unusedVariables false
set_option maxRecDepth 20000
set_option maxHeartbeats 3200000
namespace Go.Proofs.YthjbknncbhkinaaGreatDoor.MIr
open Go.RowKit Base Walk JGd
theorem in_rg {S : Nat -> Prop} {w : World} : ∀ (m : Nat) (v : Value) (c : C) (d : Nat), Base.In false S w m v c -> ∀ p ∈ pl d c, rg p.2.i := by
 intro m
 induction m with
 | zero => intro v c d h; rw [Base.In] at h; exact h.elim
 | succ m ih =>
  intro v c d h p hp
  obtain ⟨k, b, i, s, n, l⟩ := c
  obtain ⟨nv, lv, -, -, hi, -, -, a, cap, -, -, -, -, -, hL⟩ := in_iff.1 h
  rw [pl] at hp
  rcases List.mem_cons.1 hp with rfl | hp
  ·exact hi
  ·have hl : ∀ (t : List C), (∀ c ∈ t, c ∈ l) -> ∀ p ∈ plL (d + 1) t, rg p.2.i := by
    intro t
    induction t with
    | nil => intro _ p hp; rw [plL] at hp; cases hp
    | cons c t iht =>
     intro ht p hp
     rw [Walk.plL_cons] at hp
     rcases List.mem_append.1 hp with hp | hp
     ·obtain ⟨j, hj, e⟩ := List.mem_iff_getElem.1 (ht c (by simp))
      obtain ⟨g, o, u, -, -, -, hin⟩ := elem_at hL hj
      rw [e] at hin
      exact ih u c (d + 1) hin p hp
     ·exact iht (fun c hc => ht c (by simp [hc])) p hp
   exact hl l (fun _ h => h) p hp
end Go.Proofs.YthjbknncbhkinaaGreatDoor.MIr
namespace Go.Proofs.YthjbknncbhkinaaGreatDoor.NEb
open Go.RowKit Base EPure VSm GEi
open Shallow (dep)
open GPl (rh)
open GEv (c0 va er in_zero)
theorem eval_bad {m n : Nat} {w : World} {Pv : Value} {L : List C} {v : Value} {x : Ex} (hx : XBase.In false All w n v x) (hL : Base.InL false All w (m + 1) Pv L) (hdp : ∀ c ∈ L, dep c <= 4096) (hrs : KSh.rsv x = true) (hno : L.any bd = true) :
  Calls prog 23 #[v, Pv] w fun e w' => ∃ u, e = .returned (.tuple #[u, .int .i64 1108]) /\ Base.In false All w' (m + 1) u c0 /\ Below w.heap.size w w' := by
 have hmf : ∀ (fn : Fn) (first cap : Array Value) (w : World), (Instr.makeFunc fn first cap).run prog w = .ok (.func fn first cap) w := fun _ _ _ _ => rfl
 obtain ⟨n', lv, rfl, rfl, -⟩ := hx.shape
 obtain ⟨W0, hW0⟩ : ∃ W0, (w.alloc (.cells #[.int .i64 x.o, .int .i64 x.i, .string x.s, lv] 24)).alloc (.cells #[.int .i64 0, .bool false, .int .i64 0, .string ⟨#[]⟩, .slice none 0 0, .slice none 0 0] 46) = W0 := ⟨_, rfl⟩
 have hb0 : Below w.heap.size w W0 := by rw [<- hW0]; exact ((Below.refl _ w).alloc (Nat.le_refl _) _).alloc (by simp) _
 have hs0 : W0.heap.size = w.heap.size + 2 := by rw [<- hW0]; simp
 have hx0 : W0.heap[w.heap.size]? = some (.cells #[.int .i64 x.o, .int .i64 x.i, .string x.s, lv] 24 (0, 0)) := by rw [<- hW0, Below.heap_alloc _ _ _ (by simp), heap_alloc_new]
 have hx1 : W0.heap[w.heap.size + 1]? = some (.cells #[.int .i64 0, .bool false, .int .i64 0, .string ⟨#[]⟩, .slice none 0 0, .slice none 0 0] 46 (0, 0)) := by
  have := heap_alloc_new (w.alloc (.cells #[.int .i64 x.o, .int .i64 x.i, .string x.s, lv] 24)) (.cells #[.int .i64 0, .bool false, .int .i64 0, .string ⟨#[]⟩, .slice none 0 0, .slice none 0 0] 46)
  rwa [hW0, World.size_alloc] at this
 have HL : Hid (Base.InL false All w (m + 1) Pv L) := hL
 have HD : Hid _ := hdp
 have cR := KSh.resolved_c ((hx.below hb0).weak (fun _ _ => trivial) false id _ (Nat.le_refl _))
 rw [hrs] at cR
 obtain ⟨x0, x1, x2, x3⟩ := XBase.four_box hx0
 have HB0 : Hid (Below w.heap.size w W0) := hb0
 have HX0 : Hid _ := hx0
 have HX1 : Hid _ := hx1
 have HNO : Hid (L.any bd = true) := hno
 obtain ⟨ps, pc, rfl, -⟩ := hL
 clear hdp hrs hno hb0 hx0 hx1 hx
 go_enter func23, ntmps23
 go_wp2_with fail
 try rw [hW0]
 refine cR.mono ?_
 rintro e W1 ⟨rfl, b1⟩
 have hs1 := b1.size
 have HB1 : Hid (Below w.heap.size w W1) := HB0.out.trans (b1.mono (by omega))
 have HX11 : Hid (W1.heap[w.heap.size + 1]? = _) := (b1.block (w.heap.size + 1) (by omega)).trans HX1.out
 have cC := contains_c (Base.InL.below HL.out HB1.out) HD.out
 rw [HNO.out] at cC
 clear cR b1 x0 x1 x2 x3 hW0
 go_wp2_with fail
 refine cC.mono ?_
 rintro e W2 ⟨rfl, b2⟩
 have hs2 := b2.size
 have HB2 : Hid (Below w.heap.size w W2) := HB1.out.trans (b2.mono HB1.out.size)
 have HX12 : Hid (W2.heap[w.heap.size + 1]? = _) := (b2.block (w.heap.size + 1) (by omega)).trans HX11.out
 obtain ⟨r0, r1, r2, r3, r4, r5⟩ := six_box HX12.out
 have rf0 := frozen_box HX12.out 0
 have rf1 := frozen_box HX12.out 1
 have rf2 := frozen_box HX12.out 2
 have rf3 := frozen_box HX12.out 3
 have rf4 := frozen_box HX12.out 4
 have rf5 := frozen_box HX12.out 5
 obtain ⟨W9, hW9⟩ : ∃ W9, (((((W2.setCell ⟨w.heap.size + 1, 0, none⟩ (.int .i64 0)).setCell ⟨w.heap.size + 1, 1, none⟩ (.bool false)).setCell ⟨w.heap.size + 1, 2, none⟩ (.int .i64 0)).setCell ⟨w.heap.size + 1, 3, none⟩ (.string ⟨#[]⟩)).setCell ⟨w.heap.size + 1, 4, none⟩ (.slice none 0 0)).setCell ⟨w.heap.size + 1, 5, none⟩ (.slice none 0 0) = W9 := ⟨_, rfl⟩
 obtain ⟨q1, q2, q3, q4⟩ := set6 _ _ _ _ _ _ HX12.out hW9
 have HB9 : Hid (Below w.heap.size w W9) := q4 _ _ (by omega) HB2.out
 have HQ1 : Hid _ := q1
 clear cC b2 q1 q2 q3 q4
 go_wp2_with fail
 try rw [hW9]
 refine bodyPost_ret (Part.res_row_tmp rfl _ W9 (w.heap.size + 1) 46 _ (0, 0) _ rfl HQ1.out underlying46 rfl (by kernel_rfl)) rfl ?_
 exact ⟨_, rfl, (in_zero All W9).weak (fun _ h => h) false id _ (by omega), HB9.out⟩
theorem word_tg {s : ByteArray} (h : UBase.word s 95 = true) : Pure.tg s = true := by
 unfold UBase.word at h
 simp only [Bool.and_eq_true, decide_eq_true_eq] at h
 obtain ⟨-, h2, -, h4⟩ := h
 have e : UBase.bad s 0 = none := JGd.bad_low s (fun j hj => by
  have := h4 j hj
  unfold UBase.sign UBase.let' UBase.dig at this
  simp at this
  omega) _ 0 (Nat.le_refl _)
 unfold Pure.tg UBase.verr
 rw [if_pos e]
 simp
 omega
open NGe (gen) in
theorem gen_tg : ∀ (m : Nat) (x : Ex) (c t : Nat), NGe.Ok KSh.rlf m x -> ∀ s ∈ (gen m x c t).2, STx.tg s = true := by
 intro m
 induction m with
 | zero => intro x c t h; exact h.elim
 | succ m ih =>
  rintro ⟨o, i, s, l⟩ c t ⟨h1, h2, h3⟩ z hz
  rcases NRu.kd_cases h1 with ⟨ho1, ho2, hn⟩ | ⟨ho, hn⟩ | ⟨ho, hn⟩ | ⟨ho, hn⟩
  all_goals
   by_cases hb : o = 29 \/ o = 30
   ·have eg : gen (m + 1) (.mk o i s l) c t = NGe.logic (gen m) (o + 1) (NGe.kid l 0) (NGe.kid l 1) c t := by rw [gen, if_pos hb]
    rw [eg] at hz
    unfold NGe.logic NGe.both2 at hz
    rcases List.mem_append.1 hz with hz | hz
    ·exact ih _ _ _ (h3 _ (NGe.kid_mem (by omega))) z hz
    ·exact ih _ _ _ (h3 _ (NGe.kid_mem (by omega))) z hz
   by_cases hc : o = 31
   ·have eg : gen (m + 1) (.mk o i s l) c t = NGe.choice (gen m) (NGe.kid l 0) (NGe.kid l 1) (NGe.kid l 2) c t := by rw [gen, if_neg hb, if_pos hc]
    rw [eg] at hz
    unfold NGe.choice NGe.choice2 NGe.three at hz
    rcases List.mem_append.1 hz with hz | hz
    ·rcases List.mem_append.1 hz with hz | hz
     ·exact ih _ _ _ (h3 _ (NGe.kid_mem (by omega))) z hz
     ·exact ih _ _ _ (h3 _ (NGe.kid_mem (by omega))) z hz
    ·exact ih _ _ _ (h3 _ (NGe.kid_mem (by omega))) z hz
   have eg : gen (m + 1) (.mk o i s l) c t = NGe.leaf o i s t (NGe.row (gen m) l c t) := by rw [gen, if_neg hb, if_neg hc]
   rw [eg] at hz
   unfold NGe.leaf at hz
   have hr : ∀ (l : List Ex) (c t : Nat), (∀ y ∈ l, NGe.Ok KSh.rlf m y) -> ∀ z ∈ (NGe.row (gen m) l c t).2, STx.tg z = true := by
    intro l
    induction l with
    | nil => intro c t _ z hz; simp [NGe.row] at hz
    | cons y r ihr =>
     intro c t h z hz
     simp only [NGe.row] at hz
     rcases List.mem_append.1 hz with hz | hz
     ·exact ih y c t (h y (by simp)) z hz
     ·exact ihr _ _ (fun y hy => h y (by simp [hy])) z hz
   rcases List.mem_append.1 hz with hz | hz
   ·exact hr l c t h3 z hz
   ·unfold NGe.tx at hz
    split at hz
    ·next hT =>
     simp at hz
     subst hz
     unfold NGe.isT at hT
     simp at hT
     unfold SFit.ft at h2
     rcases hT with rfl | rfl
     ·rw [if_pos (by omega)] at h2
      unfold KSh.rlf at h2
      rw [if_neg (by omega), Bool.and_eq_true] at h2
      exact h2.2
     ·rw [if_neg (by omega), if_neg (by omega), if_pos rfl, Bool.and_eq_true] at h2
      exact word_tg h2.2
    ·simp at hz
theorem ok_gd (lf : Int -> Int -> ByteArray -> Bool) : ∀ (m : Nat) (x : Ex), NGe.Ok lf m x -> JPure.gd x /\ VPure.ops JVa.okOp x := by
 intro m
 induction m with
 | zero => intro x h; exact h.elim
 | succ m ih =>
  rintro ⟨o, i, s, l⟩ ⟨h1, -, h3⟩
  have hl : ∀ l : List Ex, (∀ y ∈ l, JPure.gd y /\ VPure.ops JVa.okOp y) -> JPure.gdL l /\ VPure.opsL JVa.okOp l := by
   intro l
   induction l with
   | nil => intro _; exact ⟨by rw [JPure.gdL]; trivial, by rw [VPure.opsL]; trivial⟩
   | cons y t iht =>
    intro h
    have hy := h y (List.mem_cons_self ..)
    have ht := iht fun z hz => h z (List.mem_cons_of_mem _ hz)
    exact ⟨JPure.gdL_cons.2 ⟨hy.1, ht.1⟩, VPure.opsL_cons.2 ⟨hy.2, ht.2⟩⟩
  have hk := hl l fun y hy => ih y (h3 y hy)
  have ho := NCk.kd_pos (by omega : 0 <= SFit.kd o)
  refine ⟨⟨h1, trivial, hk.1⟩, ?_, hk.2⟩
  show JVa.okOp o
  unfold JVa.okOp
  omega
theorem rn_gen {m : Nat} {x : Ex} {S : List C} (hd : NGe.Dp m x) (hz : NMk.Sz m x) (h : NMk.mkO x = true) (hS : S.any MEi.bd = false) (hG : ∀ c ∈ S, JGd.Gd c) (hdm : NFr.dm [x] <= S.length) (hlw : NFr.lw [x] = false) :
  MRv.rn (NGe.gen m x 0 0).1 (NGe.gen m x 0 0).2 S = match JPure.ev (rh S) x with
   | .ok v => .ok v
   | .error q => .error (q : Nat) := by
 obtain ⟨hok, hsz⟩ := NMk.mk_ok hd h
 have hck := NCk.ck_gen KSh.rlf hok (NGe.hs_pl (S.length : Int) m x (NFr.hs_dm _ _ [x] (Nat.le_refl _) hlw hdm)) (by omega)
 have htg : ((NGe.gen m x 0 0).2.any fun s => !STx.tg s) = false := by
  rw [List.any_eq_false]
  intro s hs
  rw [gen_tg m x 0 0 hok s hs]
  simp
 unfold MRv.rn
 rw [if_neg (by rw [htg]; simp), if_neg (by rw [hck]; simp), if_neg (by rw [hS]; simp)]
 have hat : NRu.At (NGe.gen m x 0 0).1 0 (NGe.gen m x 0 0).1 := fun j hj => by rw [Nat.zero_add]
 have hta : NRu.Ta (NGe.gen m x 0 0).2 0 (NGe.gen m x 0 0).2 := fun j hj => by rw [Nat.zero_add]
 have := NRu.run_gen hG m x 0 0 hok hz (NGe.hs_pl (S.length : Int) m x (NFr.hs_dm _ _ [x] (Nat.le_refl _) hlw hdm)) hat hta (NGe.gen m x 0 0).1.length [] (by omega)
 rw [Nat.zero_add] at this
 revert this
 generalize JPure.ev (rh S) x = A
 intro this
 cases A with
 | error q =>
  have h2 : MPl.mrun (NGe.gen m x 0 0).1 (NGe.gen m x 0 0).2 S (NGe.gen m x 0 0).1.length 0 [] = .error q := this
  rw [h2]
 | ok v =>
  obtain ⟨f', -, e⟩ := this
  have h2 : MPl.mrun (NGe.gen m x 0 0).1 (NGe.gen m x 0 0).2 S (NGe.gen m x 0 0).1.length 0 [] = .ok v := by
   rw [e]
   cases f' with
   | zero => rfl
   | succ f =>
    rw [MPl.mrun, List.getElem?_eq_none (Nat.le_refl _)]
    rfl
  rw [h2]
theorem rn_bad {m : Nat} {x : Ex} {S : List C} (hd : NGe.Dp m x) (h : NMk.mkO x = true) (hS : S.any MEi.bd = true) (hdm : NFr.dm [x] <= S.length) (hlw : NFr.lw [x] = false) :
  MRv.rn (NGe.gen m x 0 0).1 (NGe.gen m x 0 0).2 S = .error 1108 := by
 obtain ⟨hok, hsz⟩ := NMk.mk_ok hd h
 have hck := NCk.ck_gen KSh.rlf hok (NGe.hs_pl (S.length : Int) m x (NFr.hs_dm _ _ [x] (Nat.le_refl _) hlw hdm)) (by omega)
 have htg : ((NGe.gen m x 0 0).2.any fun s => !STx.tg s) = false := by
  rw [List.any_eq_false]
  intro s hs
  rw [gen_tg m x 0 0 hok s hs]
  simp
 unfold MRv.rn
 rw [if_neg (by rw [htg]; simp), if_neg (by rw [hck]; simp), if_pos hS]
end Go.Proofs.YthjbknncbhkinaaGreatDoor.NEb
namespace Go.Proofs.YthjbknncbhkinaaGreatDoor.WSy
open Go.RowKit EPure NWr NRd NFr NMk WMk
open Base (nx All six_box C)
open VJn (Tb)
open CPu (Ins ck)
open CBx (Cx)
open MSe (Tz)
open CIn (Oc OkL)
open NGe (gen sz Dp)
open KSh (rsv rlf)
open GPl (rh)
open XBase (four_box frozen_box In InL LAt Rg)
def zc : Except Int C -> Int
 | .ok _ => 0
 | .error n => n
def rc : Except Int C -> C
 | .ok r => r
 | .error _ => VPure.zerC
theorem ot_tz {w : World} {B K : Nat} {v : Value} {T : List ByteArray} (h : Ot w B v T) (hs : ∀ s ∈ T, s.size <= 140737488351232) (hK : ∀ g, v.ownBlock = some g -> g < K) : Tz K w v T := by
 obtain ⟨a, cap, e, h1, h2, h3⟩ := own_sh h
 refine ⟨a, cap, e, h1, h2, ?_⟩
 by_cases h0 : T = []
 ·exact .inl h0
 ·right
  have hl : 0 < T.length := List.length_pos_iff.2 h0
  obtain ⟨g, c2, e2, hb, -⟩ := tx_at h hl
  rw [e] at e2
  cases e2
  subst e
  refine ⟨g, 0, rfl, hK g hb, fun j hj => ?_⟩
  obtain ⟨g', c', e', -, -, -, -, -, k1, -⟩ := tx_at h hj
  cases e'
  rw [Nat.zero_add]
  exact ⟨k1, hs _ (List.getElem_mem hj)⟩
theorem sk_of {K m : Nat} {w : World} {sv : Value} {S : List C} (h : Base.InL false (fun b => b < K) w m sv S) : NPl.Sk K m w sv S := by
 obtain ⟨a, cap, h1, h2, h3, h4, h5, hL⟩ := h
 exact ⟨a, cap, h1, by omega, h2, by unfold maxLen at h3; omega, fun j hj => by
  obtain ⟨g, o, u, ha, -, hu, hi⟩ := Base.elem_at hL hj
  exact ⟨g, o, u, ha, hu, hi⟩⟩
theorem gd_of {m : Nat} {w : World} {sv : Value} {S : List C} (hS : Base.InL false All w m sv S) (h3 : S.any MEi.bd = false) : ∀ c ∈ S, JGd.Gd c := fun c hc => by
 obtain ⟨j, hj, rfl⟩ := List.mem_iff_getElem.1 hc
 obtain ⟨a, cap, -, -, -, -, -, hL⟩ := hS
 obtain ⟨g, o, u, -, -, -, hin⟩ := Base.elem_at hL hj
 refine ⟨?_, MIr.in_rg _ _ _ 1 hin⟩
 have : MEi.bd S[j] = false := by
  cases e : MEi.bd S[j] with
  | false => rfl
  | true => exact absurd (List.any_eq_true.2 ⟨_, hc, e⟩) (by rw [h3]; simp)
 unfold MEi.bd MEi.cd at this
 unfold JGd.code
 simpa using this
theorem both {m mc : Nat} {x : Ex} {S : List C} {w0 : World} {sv : Value} (hd : Dp m x) (hz : Sz m x) (h : mkO x = true) (hS0 : Base.InL false (fun b => b < w0.heap.size) w0 (mc + 1) sv S) (hdp : ∀ c ∈ S, Shallow.dep c <= 4096) (hdm : dm [x] <= S.length) (hlw : lw [x] = false) :
  ∃ Z R, (∀ (W : World) (cv tv : Value), Below w0.heap.size w0 W -> Cx W.heap.size W cv (gen m x 0 0).1 -> Tz W.heap.size W tv (gen m x 0 0).2 -> (∀ y ∈ (gen m x 0 0).1, -9223372036854775808 <= y.2 /\ y.2 <= 9223372036854775807) -> Tb W ->
    Calls prog 22 #[cv, tv, sv] W fun e w' => ∃ u, e = .returned (.tuple #[u, .int .i64 Z]) /\ Base.In false All w' (mc + 1) u R /\ Below W.heap.size W w') /\
   (∀ (W : World) (v : Value), Below w0.heap.size w0 W -> In false (fun b => b < W.heap.size) W m v x -> Tb W ->
    Calls prog 23 #[v, sv] W fun e w' => ∃ k u, e = .returned (.tuple #[u, .int .i64 Z]) /\ Base.In false All w' k u R /\ Below W.heap.size W w') := by
 have hrs : rsv x = true := by
  unfold mkO at h
  rw [Bool.and_eq_true] at h
  exact h.1
 have hin : ∀ W, Below w0.heap.size w0 W -> Base.InL false (fun b => b < W.heap.size) W (mc + 1) sv S := fun W hW =>
  (hS0.keep (w' := W) fun b hb hl => hW.block b hl).weak (fun b hb => Nat.lt_of_lt_of_le hb hW.size) false id _ (Nat.le_refl _)
 have hall : ∀ W, Below w0.heap.size w0 W -> Base.InL false All W (mc + 1) sv S := fun W hW => (hin W hW).weak (fun _ _ => trivial) false id _ (Nat.le_refl _)
 refine ⟨zc (MRv.rn (gen m x 0 0).1 (gen m x 0 0).2 S), rc (MRv.rn (gen m x 0 0).1 (gen m x 0 0).2 S), fun W cv tv hW hc ht hk hT => ?_, fun W v hW hv hT => ?_⟩
 ·refine (NRw.run_g hc ht (hin W hW) (Nat.le_refl _) hk hT).mono ?_
  rintro e w' ⟨hb, hA⟩
  revert hA
  generalize MRv.rn (gen m x 0 0).1 (gen m x 0 0).2 S = X
  intro hA
  cases X with
  | ok r =>
   obtain ⟨u, he, hi⟩ := hA
   exact ⟨u, he, hi, hb⟩
  | error n =>
   obtain ⟨u, he, hi⟩ := hA
   exact ⟨u, he, hi, hb⟩
 ·cases hbd : S.any MEi.bd with
  | true =>
   rw [NEb.rn_bad hd h hbd hdm hlw]
   refine (NEb.eval_bad (m := mc) (hv.weak (fun _ _ => trivial) false id _ (Nat.le_refl _)) (hall W hW) hdp hrs hbd).mono ?_
   rintro e w' ⟨u, he, hi, hb⟩
   exact ⟨_, u, he, hi, hb⟩
  | false =>
   have hG := gd_of (hall w0 (Below.refl _ _)) hbd
   rw [NEb.rn_gen hd hz h hbd hG hdm hlw]
   obtain ⟨hok, -⟩ := mk_ok hd h
   obtain ⟨hgd, hop⟩ := NEb.ok_gd rlf m x hok
   have hwf : ∀ (j : Int) c, rh S j = some c -> VPure.wf c := by
    intro j c hj
    unfold rh at hj
    split at hj
    ·exact JGe.Gd.wf (hG c (List.mem_of_getElem? hj))
    ·cases hj
   refine (NEv.eval_of (K := W.heap.size) (m := mc) ⟨hv, Nat.le_refl _, hwf, hgd, hop, hT, sk_of (hin W hW)⟩ (hall W hW) hdp hrs hbd (fun W' v' hv' => MRv.copied_new W' v' hv')).mono ?_
   rintro e w' ⟨k, u, he, hi, hb⟩
   refine ⟨k, u, ?_, ?_, hb⟩
   ·rw [he]
    cases JPure.ev (rh S) x <;> rfl
   ·have hi2 := hi.weak (S' := All) (fun _ _ => trivial) false id k (Nat.le_refl _)
    revert hi2
    cases JPure.ev (rh S) x <;> exact fun h => h
theorem walk {w : World} {v sv : Value} {m mc : Nat} {x : Ex} {S : List C} (hin : In false (fun _ => True) w m v x) (hS : Base.InL false (fun b => b < w.heap.size) w (mc + 1) sv S) (hT : Tb w) :
  Calls prog 4 #[v, sv] w fun e w' => e = .returned (.bool true) /\ Below w.heap.size w w' := by
 have hdp := in_dp m v x hin
 have hsz := in_sz m v x hin
 obtain ⟨m', lv, -, rfl, -, -, -, hL⟩ := hin.shape
 obtain ⟨a, cap, rfl, -⟩ := hL
 obtain ⟨W0, hW0⟩ : ∃ W0, w.alloc (.cells #[.int .i64 x.o, .int .i64 x.i, .string x.s, .slice a x.l.length cap] 24) = W0 := ⟨_, rfl⟩
 have b0 : Below w.heap.size w W0 := by rw [<- hW0]; exact (Below.refl _ w).alloc (Nat.le_refl _) _
 have q1 : W0.heap[w.heap.size]? = some (.cells #[.int .i64 x.o, .int .i64 x.i, .string x.s, .slice a x.l.length cap] 24 (0, 0)) := by rw [<- hW0]; exact heap_alloc_new w _
 have cA := CAw.awake_c W0 (hT.below b0)
 have HX : Hid (W0.heap[w.heap.size]? = some (.cells #[.int .i64 x.o, .int .i64 x.i, .string x.s, .slice a x.l.length cap] 24 (0, 0))) := q1
 have HB0 : Hid (Below w.heap.size w W0) := b0
 have HIN : Hid (In false (fun _ => True) W0 m (.agg #[.int .i64 x.o, .int .i64 x.i, .string x.s, .slice a x.l.length cap]) x) := hin.below b0
 have HS : Hid (Base.InL false (fun b => b < w.heap.size) w (mc + 1) sv S) := hS
 have HT : Hid (Tb w) := hT
 have HDZ : Hid (Dp m x /\ Sz m x) := ⟨hdp, hsz⟩
 obtain ⟨sa, sp, rfl, hsl⟩ := hS
 clear q1 b0 hin hT hdp hsz hsl
 go_enter func4, ntmps4
 go_wp2_with fail
 (try rw [hW0])
 refine cA.mono ?_
 rintro e W1 ⟨rfl, b1⟩
 have HB1 : Hid (Below W0.heap.size W0 W1) := b1
 obtain ⟨v0, v1, v2, v3⟩ := four_box (later HX.out b1)
 have c1 := XSh.shallow_c (HIN.out.below b1)
 clear cA b1
 go_wp2_with fail
 refine c1.mono ?_
 rintro e W2 ⟨⟨sb, rfl⟩, b2⟩
 have HB2 : Hid (Below W0.heap.size W0 W2) := nx HB1.out b2
 obtain ⟨v0, v1, v2, v3⟩ := four_box (later HX.out HB2.out)
 clear c1 b2
 cases sb with
 | false =>
  go_wp2_with fail
  go_ret
  exact ⟨rfl, nx HB0.out HB2.out⟩
 | true =>
  have HSA : Hid (∀ W, Below w.heap.size w W -> Base.InL false All W (mc + 1) (.slice sa S.length sp) S) := fun W hW => (HS.out.keep (w' := W) fun b hb hl => hW.block b hl).weak (fun _ _ => trivial) false id _ (Nat.le_refl _)
  have c2 := GDe.shallows_c (HSA.out W2 (nx HB0.out HB2.out))
  suffices HF : ∀ D, decide (Shallow.depL S <= 4096) = D -> _ from HF _ rfl
  intro D hD
  rw [hD] at c2
  go_wp2_with fail
  refine c2.mono ?_
  rintro e W3 ⟨rfl, b3⟩
  have HB3 : Hid (Below W0.heap.size W0 W3) := nx HB2.out b3
  obtain ⟨v0, v1, v2, v3⟩ := four_box (later HX.out HB3.out)
  clear c2 b3
  cases D with
  | false =>
   go_wp2_with fail
   go_ret
   exact ⟨rfl, nx HB0.out HB3.out⟩
  | true =>
   have HDE : Hid (∀ c ∈ S, Shallow.dep c <= 4096) := fun c hc => by
    obtain ⟨j, hj, rfl⟩ := List.mem_iff_getElem.1 hc
    exact Shallow.depL_le.1 (of_decide_eq_true hD) j hj
   have c3 := fr_all m W3 _ x (HIN.out.below HB3.out)
   suffices HF : ∀ F, fr [x] = F -> _ from HF _ rfl
   intro F hF
   rw [hF] at c3
   clear hD
   go_wp2_with fail
   refine c3.mono ?_
   rintro e W4 ⟨rfl, b4⟩
   have HB4 : Hid (Below W0.heap.size W0 W4) := nx HB3.out b4
   obtain ⟨v0, v1, v2, v3⟩ := four_box (later HX.out HB4.out)
   clear c3 b4
   cases F with
   | true =>
    go_wp2_with fail
    go_ret
    exact ⟨rfl, nx HB0.out HB4.out⟩
   | false =>
    have HFR : Hid (fr [x] = false) := hF
    have c4 := XCp.copyAll m _ x W4 (HIN.out.below HB4.out)
    clear hF
    go_wp2_with fail
    refine c4.mono ?_
    rintro e W5 ⟨u, rfl, hu, b5⟩
    have HB5 : Hid (Below W0.heap.size W0 W5) := nx HB4.out b5
    have huK : In false (fun b => b < W5.heap.size) W5 m u x := hu.weak (fun b hb => hb.2) false id m (Nat.le_refl _)
    have huA : In false (fun _ => True) W5 m u x := hu.weak (fun _ _ => trivial) false id m (Nat.le_refl _)
    clear c4 b5 hu
    suffices HM : ∀ M, mkO x = M -> _ from HM _ rfl
    intro M hM
    cases M with
    | false =>
     as_aux_lemma =>
      have c6 := make_no huA hM
      go_wp2_with fail
      refine c6.mono ?_
      rintro e W6 ⟨rfl, b6⟩
      have HB6 : Hid (Below W0.heap.size W0 W6) := nx HB5.out b6
      have cN := CAw.num_c 1108 W6
      clear c6 b6
      go_wp2_with fail
      refine cN.mono ?_
      rintro e w' ⟨rfl, rfl⟩
      clear cN
      go_wp2_with fail
      go_ret
      exact ⟨rfl, nx HB0.out HB6.out⟩
    | true =>
     as_aux_lemma =>
      have c6 := make_ok huK (Nat.le_refl _) hM
      go_wp2_with fail
      refine c6.mono ?_
      rintro e W6 ⟨cv, tv, rfl, ⟨ho, ht, -⟩, b6⟩
      have HB6 : Hid (Below W0.heap.size W0 W6) := nx HB5.out b6
      obtain ⟨v0, v1, v2, v3⟩ := four_box (later HX.out HB6.out)
      have hlw : lw [x] = false := by
       obtain ⟨C, T, -, -, -, -, -, h, -⟩ := facts HDZ.out.1 HDZ.out.2 hM
       exact h
      have cN := CAw.num_c 0 W6
      have c7 := dm_all m W6 _ x (HIN.out.below HB6.out) HFR.out hlw
      have HO : Hid (Oc W6 W5.heap.size cv (gen m x 0 0).1) := ho
      have HTX : Hid (Ot W6 W5.heap.size tv (gen m x 0 0).2) := ht
      have HM : Hid (mkO x = true) := hM
      have HLW : Hid (lw [x] = false) := hlw
      clear c6 b6 ho ht hM hlw
      go_wp2_with fail
      refine cN.mono ?_
      rintro e w' ⟨rfl, rfl⟩
      obtain ⟨dp, hdp⟩ : ∃ dp, dm [x] = dp := ⟨_, rfl⟩
      rw [hdp] at c7
      go_wp2_with fail
      refine c7.mono ?_
      rintro e W7 ⟨rfl, b7⟩
      have H67 : Hid (Below W6.heap.size W6 W7) := b7
      have HB7 : Hid (Below W0.heap.size W0 W7) := nx HB6.out b7
      clear c7 cN b7
      by_cases hle : dp <= (S.length : Int)
      ·have d1 : decide ((S.length : Int) < dp) = false := by simp; omega
       obtain ⟨Z, R, hrun, heval⟩ := both HDZ.out.1 HDZ.out.2 HM.out HS.out HDE.out (by rw [hdp]; exact hle) HLW.out
       have HEV : Hid _ := heval
       obtain ⟨C, T, hg, hC, -, hOk, hTs, -, -⟩ := facts HDZ.out.1 HDZ.out.2 HM.out
       have ho7 := own_below HO.out H67.out
       have ht7 := own_below HTX.out H67.out
       have c8 := hrun W7 cv tv (nx HB0.out HB7.out) (oc_cx ho7 (fun g e => (World.ownsRow.lt ho7 g e).2)) (ot_tz ht7 (by rw [hg]; exact hTs) (fun g e => (World.ownsRow.lt ht7 g e).2)) (by rw [hg]; exact fun y hy => bounds_i64 (hOk.1 y hy).2) (HT.out.below (nx HB0.out HB7.out))
       clear hrun heval hdp hle hg hC hOk hTs ho7 ht7
       go_wp2_with fail
       refine c8.mono ?_
       rintro e W8 ⟨u8, rfl, hi8, b8⟩
       obtain ⟨an, ln, cn, al, ll, cl, rfl⟩ := VRs.in_shape hi8
       have HB8 : Hid (Below W0.heap.size W0 W8) := nx HB7.out b8
       obtain ⟨W9, hW9⟩ : ∃ W9, W8.alloc (.cells #[.int .i64 R.k, .bool R.b, .int .i64 R.i, .string R.s, .slice an ln cn, .slice al ll cl] 46) = W9 := ⟨_, rfl⟩
       have b9 : Below W8.heap.size W8 W9 := by rw [<- hW9]; exact (Below.refl _ W8).alloc (Nat.le_refl _) _
       have q9 : W9.heap[W8.heap.size]? = some (.cells #[.int .i64 R.k, .bool R.b, .int .i64 R.i, .string R.s, .slice an ln cn, .slice al ll cl] 46 (0, 0)) := by rw [<- hW9]; exact heap_alloc_new W8 _
       have HB9 : Hid (Below W0.heap.size W0 W9) := nx HB8.out b9
       have HI9 : Hid (Base.In false All W9 (mc + 1) (VSm.vl R.k R.b R.i R.s (.slice an ln cn) (.slice al ll cl)) R) := hi8.below b9
       have HQ9 : Hid (W9.heap[W8.heap.size]? = some (.cells #[.int .i64 R.k, .bool R.b, .int .i64 R.i, .string R.s, .slice an ln cn, .slice al ll cl] 46 (0, 0))) := q9
       obtain ⟨v0, v1, v2, v3⟩ := four_box (later HX.out HB9.out)
       obtain ⟨z0, z1, z2, z3, z4, z5⟩ := six_box q9
       have c10 := XCp.copyAll m _ x W9 (HIN.out.below HB9.out)
       clear c8 b8 b9 q9 hi8
       go_wp2_with fail
       refine c10.mono ?_
       rintro e W10 ⟨u, rfl, hu, b10⟩
       have H910 : Hid (Below W9.heap.size W9 W10) := b10
       have HB10 : Hid (Below W0.heap.size W0 W10) := nx HB9.out b10
       have c11 := HEV.out W10 u (nx HB0.out HB10.out) (hu.weak (fun b hb => hb.2) false id m (Nat.le_refl _)) (HT.out.below (nx HB0.out HB10.out))
       clear c10 b10 hu
       go_wp2_with fail
       refine c11.mono ?_
       rintro e W11 ⟨k, u11, rfl, hi11, b11⟩
       obtain ⟨an2, ln2, cn2, al2, ll2, cl2, rfl⟩ := VRs.in_shape hi11
       obtain ⟨W12, hW12⟩ : ∃ W12, W11.alloc (.cells #[.int .i64 R.k, .bool R.b, .int .i64 R.i, .string R.s, .slice an2 ln2 cn2, .slice al2 ll2 cl2] 46) = W12 := ⟨_, rfl⟩
       have b12 : Below W11.heap.size W11 W12 := by rw [<- hW12]; exact (Below.refl _ W11).alloc (Nat.le_refl _) _
       have q12 : W12.heap[W11.heap.size]? = some (.cells #[.int .i64 R.k, .bool R.b, .int .i64 R.i, .string R.s, .slice an2 ln2 cn2, .slice al2 ll2 cl2] 46 (0, 0)) := by rw [<- hW12]; exact heap_alloc_new W11 _
       have H912 : Hid (Below W9.heap.size W9 W12) := nx (nx H910.out b11) b12
       have HB12 : Hid (Below W0.heap.size W0 W12) := nx HB9.out H912.out
       obtain ⟨y0, y1, y2, y3, y4, y5⟩ := six_box q12
       obtain ⟨z0, z1, z2, z3, z4, z5⟩ := six_box (later HQ9.out H912.out)
       have cN := CAw.num_c Z W12
       have cS := SameV.sameV_c (mc + 1 + k) _ _ R W12 ((HI9.out.below H912.out).weak (fun _ h => h) false id _ (by omega)) ((hi11.below b12).weak (fun _ h => h) false id _ (by omega))
       clear c11 b11 b12 q12 hi11
       go_wp2_with fail
       refine cN.mono ?_
       rintro e w' ⟨rfl, rfl⟩
       go_wp2_with fail
       refine cN.mono ?_
       rintro e w' ⟨rfl, rfl⟩
       go_wp2_with fail
       refine cS.mono ?_
       rintro e W13 ⟨rfl, b13⟩
       have HB13 : Hid (Below W0.heap.size W0 W13) := nx HB12.out b13
       clear cS cN b13
       go_wp2_with fail
       go_ret
       exact ⟨rfl, nx HB0.out HB13.out⟩
      ·have d1 : decide ((S.length : Int) < dp) = true := by simp; omega
       go_wp2_with fail
       go_ret
       exact ⟨rfl, nx HB0.out HB7.out⟩
end Go.Proofs.YthjbknncbhkinaaGreatDoor.WSy

import Derived.Deep.RegionWith
import Derived.Test.YtaiackmmmlhgbaaGreatPV01
open Go.Proofs.Tryz
set_option linter.unusedVariables false
set_option maxRecDepth 20000
namespace Go.Proofs.YtaiackmmmlhgbaaGreat.TKept
open Go.RowKit TBase
theorem sameA_c (u v : Value) (L : List (ByteArray × ByteArray)) (w : World) (hu : Ax false All w u L) (hv : Ax false All w v L) :
  Calls prog 117 #[u, v] w fun e w' => e = .returned (.bool true) /\ Below w.heap.size w w' := by
 obtain ⟨a, cap, rfl, hlc, hm, hlen, hsz, hnil, hN⟩ := hu
 obtain ⟨a', cap', rfl, hlc', hm', hlen', hsz', hnil', hN'⟩ := hv
 clear hsz hsz' hlen'
 go_enter func117, ntmps117
 go_wp2_with fail
 go_loopw [5] (fun i wr => ∃ q : Nat, q <= L.length /\ i = .int .i64 q /\ Below w.heap.size w wr) (fun i _ => L.length - (intOf i).toNat)
 case atStart => exact ⟨0, by omega, rfl, Below.refl _ _⟩
 case round =>
  obtain ⟨q, hq, rfl, hb⟩ := hrel
  by_cases hlt : q < L.length
  ·obtain ⟨g, o, rfl, -, hc, hd⟩ := attr_at hN hlt
   obtain ⟨g', o', rfl, -, hc', hd'⟩ := attr_at hN' hlt
   have hc := below_cell hc hb
   have hc' := below_cell hc' hb
   have hd := below_cell hd hb
   have hd' := below_cell hd' hb
   have hb' := hb.drew
   generalize L[q].1 = x at *
   generalize L[q].2 = y at *
   clear hN hN'
   go_wp2_with fail
   go_region
   all_goals go_wp2_with fail
   all_goals go_roundw
   all_goals first
    | (case rel => exact ⟨q + 1, by omega, by go_num, hb'⟩)
    | (case measure => simp only [intOf]; omega)
  ·have hlt' : decide ((q : Int) < (L.length : Int)) = false := by simp; omega
   go_wp2_with fail
   go_ret
   exact ⟨rfl, hb⟩
theorem keptA_c {S : Nat -> Prop} (u v : Value) (L : List (ByteArray × ByteArray)) (w : World) (hu : Ax true S w u L) (hv : Ax false All w v L) :
  Calls prog 157 #[u, v] w fun e w' => e = .returned (.bool true) /\ Below w.heap.size w w' := by
 have c50 := sameA_c u v L w hu.plain hv
 obtain ⟨a, cap, rfl, hlc, hm, hlen, hsz, hnil, hN⟩ := hu
 obtain ⟨a', cap', rfl, hlc', hm', -, -, hnil', -⟩ := hv
 obtain ⟨g, o, rfl, -, -, hr⟩ : ∃ g o, a = some ⟨g, o, none⟩ /\ S g /\ (∀ j (h : j < L.length), Two w g (o + j * 2) L[j]) /\
   (true = true -> L.length + 2 <= cap /\ Two w g (o + L.length * 2) room2 /\ Two w g (o + L.length * 2 + 2) room2) := by
  rcases hN with ⟨_, h⟩ | h
  ·cases h
  ·exact h
 obtain ⟨h2, r1, r2⟩ := hr rfl
 clear hsz hr hN
 generalize L.length = n at *
 go_enter func157, ntmps157
 go_wp2_with (first | (go_at_call 117; refine c50.mono ?_; rintro e w1 ⟨rfl, b1⟩; have r1' : w1.cell? ⟨g, o + n * 2, none⟩ = some (.string ⟨#[126, 114, 111, 111, 109]⟩) := below_cell r1.1 b1; have r1'' : w1.cell? ⟨g, o + n * 2 + 1, none⟩ = some (.string ⟨#[]⟩) := below_cell r1.2 b1; have r2' : w1.cell? ⟨g, o + (n + 1) * 2, none⟩ = some (.string ⟨#[126, 114, 111, 111, 109]⟩) := (by rw [show o + (n + 1) * 2 = o + n * 2 + 2 by omega]; exact below_cell r2.1 b1); have r2'' : w1.cell? ⟨g, o + (n + 1) * 2 + 1, none⟩ = some (.string ⟨#[]⟩) := (by rw [show o + (n + 1) * 2 = o + n * 2 + 2 by omega]; exact below_cell r2.2 b1)))
 go_ret
 exact ⟨rfl, b1⟩
theorem ax_nil (w : World) : Ax false All w (.slice none 0 0) [] := ⟨none, 0, rfl, by simp, by simp, by simp, by simp, fun _ => rfl, .inl ⟨rfl, rfl⟩⟩
theorem sameNil_c (w : World) : Calls prog 31 #[.slice none 0 0, .slice none 0 0] w fun e w' => e = .returned (.bool true) /\ Below w.heap.size w w' := by
 go_enter func31, ntmps31
 go_wp2_with fail
 go_loopw [5] (fun i wr => i = .int .i64 0 /\ wr = w) (fun i _ => 0)
 case atStart => exact ⟨rfl, rfl⟩
 case round =>
  obtain ⟨rfl, rfl⟩ := hrel
  go_wp2_with fail
  go_ret
  exact ⟨rfl, Below.refl _ _⟩
theorem room_c (w : World) : Calls prog 71 #[.agg #[.string ⟨#[126, 114, 111, 111, 109]⟩, .string ⟨#[]⟩, .slice none 0 0, .slice none 0 0], .agg #[.string ⟨#[126, 114, 111, 111, 109]⟩, .string ⟨#[]⟩, .slice none 0 0, .slice none 0 0]] w
  fun e w' => e = .returned (.bool true) /\ Below w.heap.size w w' := by
 obtain ⟨W0, hW0⟩ : ∃ W0, (w.alloc (.cells #[.string ⟨#[126, 114, 111, 111, 109]⟩, .string ⟨#[]⟩, .slice none 0 0, .slice none 0 0] 68)).alloc (.cells #[.string ⟨#[126, 114, 111, 111, 109]⟩, .string ⟨#[]⟩, .slice none 0 0, .slice none 0 0] 68) = W0 := ⟨_, rfl⟩
 have hb0 : Below w.heap.size w W0 := by rw [<- hW0]; exact ((Below.refl _ w).alloc (Nat.le_refl _) _).alloc (by simp) _
 have hsz0 : W0.heap.size = w.heap.size + 2 := by rw [<- hW0]; simp
 have hx0 : W0.heap[w.heap.size]? = some (.cells #[.string ⟨#[126, 114, 111, 111, 109]⟩, .string ⟨#[]⟩, .slice none 0 0, .slice none 0 0] 68) := by
  rw [<- hW0, Below.heap_alloc _ _ _ (by simp), heap_alloc_new]
 have hx1 : W0.heap[w.heap.size + 1]? = some (.cells #[.string ⟨#[126, 114, 111, 111, 109]⟩, .string ⟨#[]⟩, .slice none 0 0, .slice none 0 0] 68) := by
  have := heap_alloc_new (w.alloc (.cells #[.string ⟨#[126, 114, 111, 111, 109]⟩, .string ⟨#[]⟩, .slice none 0 0, .slice none 0 0] 68)) (.cells #[.string ⟨#[126, 114, 111, 111, 109]⟩, .string ⟨#[]⟩, .slice none 0 0, .slice none 0 0] 68)
  rwa [hW0, World.size_alloc] at this
 have c1 := sameA_c _ _ [] W0 (ax_nil W0) (ax_nil W0)
 obtain ⟨d0, d1, d2, d3⟩ := four_box hx0
 obtain ⟨e0, e1, e2, e3⟩ := four_box hx1
 go_enter func71, ntmps71
 go_wp2_with fail
 refine c1.mono ?_
 rintro e w1 ⟨rfl, b1⟩
 have k3 := (four_box ((b1.block w.heap.size (by omega)).trans hx0)).2.2.2
 have j3 := (four_box ((b1.block (w.heap.size + 1) (by omega)).trans hx1)).2.2.2
 have c2 := sameNil_c w1
 clear c1 hx0 hx1 hW0
 go_wp2_with fail
 refine c2.mono ?_
 rintro e w2 ⟨rfl, b2⟩
 go_wp2_with fail
 go_ret
 exact ⟨rfl, nx (nx hb0 b1) b2⟩
theorem four_room {w : World} {g o : Nat} (h : Four w g o room4) : w.cell? ⟨g, o, none⟩ = some (.string ⟨#[126, 114, 111, 111, 109]⟩) /\ w.cell? ⟨g, o + 1, none⟩ = some (.string ⟨#[]⟩) /\ w.cell? ⟨g, o + 2, none⟩ = some (.slice none 0 0) /\ w.cell? ⟨g, o + 3, none⟩ = some (.slice none 0 0) := by
 obtain ⟨p0, p1, p2, p3, E, h⟩ := h
 simp only [room4, room, Value.agg.injEq, Array.mk.injEq, List.cons.injEq, and_true] at E
 obtain ⟨rfl, rfl, rfl, rfl⟩ := E
 exact h
def Keeps (m : Nat) : Prop := ∀ (u v : Value) (c : T) (w : World), In true All w m u c -> In false All w m v c ->
  Calls prog 104 #[u, v] w fun e w' => e = .returned (.bool true) /\ Below w.heap.size w w'
theorem kepts_of (m : Nat) (hm : Keeps m) (u v : Value) (l : List T) (w : World) (hu : InL true All w m u l) (hv : InL false All w m v l) :
  Calls prog 52 #[u, v] w fun e w' => e = .returned (.bool true) /\ Below w.heap.size w w' := by
 obtain ⟨a, cap, rfl, hlc, hcm, hlen, hnil, hN⟩ := hu
 obtain ⟨a', cap', rfl, hlc', hm', -, hnil', hN'⟩ := hv
 have hN0 := hN
 obtain ⟨g, o, rfl, hr⟩ : ∃ g o, a = some ⟨g, o, none⟩ /\ (l.length + 2 <= cap /\ Four w g (o + l.length * 4) room4 /\ Four w g (o + l.length * 4 + 4) room4) := by
  rcases hN with ⟨_, h⟩ | ⟨g, o, h, _, _, hr⟩
  ·cases h
  ·exact ⟨g, o, h, hr rfl⟩
 obtain ⟨h2, s1, s2⟩ := hr
 clear hN
 have hu : LAt true All w m (some ⟨g, o, none⟩) cap l := hN0
 obtain ⟨d0, d1, d2, d3⟩ := four_room s1
 have z2 := s2
 rw [show o + l.length * 4 + 4 = o + (l.length + 1) * 4 by omega] at z2
 go_enter func52, ntmps52
 go_wp2_with fail
 refine (room_c _).mono ?_
 rintro e w1 ⟨rfl, b1⟩
 obtain ⟨e0, e1, e2, e3⟩ := four_room (four_below z2 b1)
 go_wp2_with fail
 refine (room_c _).mono ?_
 rintro e w2 ⟨rfl, b2⟩
 have b12 := nx b1 b2
 clear b1 b2 d0 d1 d2 d3 e0 e1 e2 e3 s1 s2 z2
 go_wp2_with fail
 go_loopw [6] (fun i wr => ∃ q : Nat, q <= l.length /\ i = .int .i64 q /\ Below w.heap.size w wr) (fun i _ => l.length - (intOf i).toNat)
 case atStart => exact ⟨0, by omega, rfl, b12⟩
 case round =>
  obtain ⟨q, hq, rfl, hb⟩ := hrel
  by_cases hlt : q < l.length
  ·obtain ⟨g1, o1, x, E, -, hx, hin⟩ := elem_at hu hlt
   obtain ⟨g', o', y, rfl, -, hy, hin'⟩ := elem_at hN' hlt
   obtain ⟨rfl, rfl⟩ : g = g1 /\ o = o1 := by cases E; exact ⟨rfl, rfl⟩
   have hd := (Below.refl wr.heap.size wr).drew
   have c18 := hm x y l[q] wr.drew ((hin.below hb).below hd) ((hin'.below hb).below hd)
   have hx := four_below hx hb
   have hy := four_below hy hb
   obtain ⟨x0, x1, x2, x3, rfl, d0, d1, d2, d3⟩ := hx
   obtain ⟨y0, y1, y2, y3, rfl, e0, e1, e2, e3⟩ := hy
   clear hu hN' hin hin' hm E
   go_wp2_with fail
   go_region_with (go_at_call 104; refine c18.mono ?_; rintro e w1 ⟨rfl, b1⟩)
   all_goals go_wp2_with fail
   all_goals go_roundw
   all_goals first
    | (case rel => exact ⟨q + 1, by omega, by go_num, hb.drew.trans (b1.mono hb.size)⟩)
    | (case measure => simp only [intOf]; omega)
  ·have hlt' : decide ((q : Int) < (l.length : Int)) = false := by simp; omega
   go_wp2_with fail
   go_ret
   exact ⟨rfl, hb⟩
theorem kept_of (m : Nat) (hm : ∀ (u v : Value) (l : List T) (w : World), InL true All w m u l -> InL false All w m v l -> Calls prog 52 #[u, v] w fun e w' => e = .returned (.bool true) /\ Below w.heap.size w w') : Keeps (m + 1) := by
 intro u v c w hu hv
 obtain ⟨g, s, n, l⟩ := c
 rw [in_iff] at hu hv
 obtain ⟨nv, lv, rfl, hg, hs, hn, hl⟩ := hu
 obtain ⟨nv', lv', rfl, -, -, hn', hl'⟩ := hv
 obtain ⟨W0, hW0⟩ : ∃ W0, (w.alloc (.cells #[.string g, .string s, nv, lv] 68)).alloc (.cells #[.string g, .string s, nv', lv'] 68) = W0 := ⟨_, rfl⟩
 have hb0 : Below w.heap.size w W0 := by rw [<- hW0]; exact ((Below.refl _ w).alloc (Nat.le_refl _) _).alloc (by simp) _
 have hsz0 : W0.heap.size = w.heap.size + 2 := by rw [<- hW0]; simp
 have hx0 : W0.heap[w.heap.size]? = some (.cells #[.string g, .string s, nv, lv] 68) := by
  rw [<- hW0, Below.heap_alloc _ _ _ (by simp), heap_alloc_new]
 have hx1 : W0.heap[w.heap.size + 1]? = some (.cells #[.string g, .string s, nv', lv'] 68) := by
  have := heap_alloc_new (w.alloc (.cells #[.string g, .string s, nv, lv] 68)) (.cells #[.string g, .string s, nv', lv'] 68)
  rwa [hW0, World.size_alloc] at this
 have c50 := keptA_c nv nv' n W0 (hn.below hb0) (hn'.below hb0)
 obtain ⟨d0, d1, d2, d3⟩ := four_box hx0
 obtain ⟨e0, e1, e2, e3⟩ := four_box hx1
 go_enter func104, ntmps104
 go_wp2_with fail
 refine c50.mono ?_
 rintro e w1 ⟨rfl, b1⟩
 have k5 := (four_box ((b1.block w.heap.size (by omega)).trans hx0)).2.2.2
 have j5 := (four_box ((b1.block (w.heap.size + 1) (by omega)).trans hx1)).2.2.2
 have c51 := hm lv lv' l w1 ((hl.below hb0).below b1) ((hl'.below hb0).below b1)
 clear c50 hx0 hx1 hW0
 go_wp2_with fail
 refine c51.mono ?_
 rintro e w2 ⟨rfl, b2⟩
 go_wp2_with fail
 go_ret
 exact ⟨rfl, nx (nx hb0 b1) b2⟩
theorem keepsAll : ∀ m, Keeps m := by
 intro m
 induction m with
 | zero => intro u v c w h; rw [In] at h; exact h.elim
 | succ m ih => exact kept_of m (kepts_of m ih)
theorem kepts_c {S : Nat -> Prop} (m : Nat) (u v : Value) (l : List T) (w : World) (hu : InL true S w m u l) (hv : InL false All w m v l) :
  Calls prog 52 #[u, v] w fun e w' => e = .returned (.bool true) /\ Below w.heap.size w w' := kepts_of m (keepsAll m) u v l w (hu.weak (fun _ _ => trivial) true id m (Nat.le_refl _)) hv
end Go.Proofs.YtaiackmmmlhgbaaGreat.TKept

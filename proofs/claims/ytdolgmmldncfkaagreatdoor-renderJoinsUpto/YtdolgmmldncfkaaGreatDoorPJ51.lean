import Derived.Test.YtdolgmmldncfkaaGreatDoorPJ49
import Derived.Test.YtdolgmmldncfkaaGreatDoorPJ50
open Go.Proofs.Tryz
set_option linter.unusedVariables false
namespace Go.Proofs.YtdolgmmldncfkaaGreatDoor.WRK
open Go.RowKit Base KBase KNd GRa
open VPure hiding evL
open TBase (T)
open Shallow (dep)
open GRj
theorem no_zero {cs:List Co} {c:C} {q:Nat} (hi:GKl.icL cs) (h:rnd cs c=.error q):q≠0:=by
 have g1:=chk_ge cs;have g2:0<=vch c:=ms_ge _ _ _;by_cases h1:chk cs=0
 ·by_cases h2:vch c=0
  ·rcases GIs.rnd_er hi h1 h2 h with h|rfl|rfl <;> omega
  ·unfold rnd at h
   rw[if_neg (by omega),if_pos h2] at h;cases h;omega
 ·unfold rnd at h
  rw[if_pos h1] at h;cases h;omega
theorem walk {ma mb m:Nat} {va vb v:Value} {a b:List Co} {c:C} {w:World} (hA:KBase.InL false (fun b=>b<w.heap.size) w ma va a) (hB:KBase.InL false (fun b=>b<w.heap.size) w mb vb b) (hin:Base.In false (fun b=>b<w.heap.size) w (m+1) v c) (hT:Digits.Tab w) (la:a.length<=1048576) (lb:b.length<=1048576) :
  Calls prog 3 #[va,vb,v] w fun e w'=>e=.returned (.bool true)/\Below w.heap.size w w':=
 WRJ.walk_of hA hB hin hT la lb rfl rfl rfl ⟨fun q h=>no_zero (GIr.ic_of _ _ _ hA) h,fun q h=>no_zero (GIr.ic_of _ _ _ hB) h⟩ (fun F G h1 h2=>rnd_join h1 h2)
end Go.Proofs.YtdolgmmldncfkaaGreatDoor.WRK

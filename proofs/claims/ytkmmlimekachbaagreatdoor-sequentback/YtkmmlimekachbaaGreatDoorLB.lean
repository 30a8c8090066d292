/-
  What the listed tables give to the walks; a world that holds them, for a row's witness; how an argument that is a set, or a list of numbers, is opened. No condition.
-/
import Derived.Test.YtkmmlimekachbaaGreatDoorCards
import Derived.Test.YtkmmlimekachbaaGreatDoorTie
import Derived.Test.YtkmmlimekachbaaGreatDoorBG4
import Derived.Lib.LaidIn
import Derived.Lib.LaidTab
import Derived.Lib.LaidU8
import Derived.Deep.DeepHandedRow
import Derived.Deep.DeepWitnessRowRef
import Derived.ProofKit
import Derived.OpenShut
import Derived.SizedLaws
namespace Go.Proofs.YtkmmlimekachbaaGreatDoor.Bt
open Go.ChangeShapes Go.WideShapes Go.ChangeAt Go.RowKit
open Bs (Ok wd)
theorem own:ownKnob Tryz.prog.godebug=none:=by kernel_rfl
theorem laidOut:laidOutB Tryz.prog=true:=by kernel_rfl
theorem e_tz:Rows.laid_math_bits_deBruijn64tab (H:=Unit)=Lib.tabData .u8 (Lib.deBruijn64tab.map fun n:Nat=>(n:Int)):=by kernel_rfl
theorem tz_global : Tryz.prog.globalNamed "math/bits.deBruijn64tab" = some 0 := by kernel_rfl
theorem tz_of {W : World} {l : List (String × DataW Unit)} (h : laidMet Tryz.prog l W) (h3 : ("math/bits.deBruijn64tab", Rows.laid_math_bits_deBruijn64tab) ∈ l) : Tz W := by
 rw [e_tz] at h3
 obtain ⟨g,t,cs,fuel,p,hg,hty,hvar,hd⟩:=Lib.laidMet.reads h h3
 obtain rfl:=Option.some.inj (tz_global.symm.trans hg)
 obtain rfl:=Option.some.inj ((show (Tryz.prog.globals[0]?).map (·.type)=some 200 by kernel_rfl).symm.trans hty)
 have hT : Lib.TabIs Tryz.prog W "math/bits.deBruijn64tab" .u8 (Lib.deBruijn64tab.map fun n : Nat => (n : Int)) := by
  unfold Lib.TabIs
  rw [hvar,← Lib.cells_of_tab Tryz.underlying200 Tryz.underlying5 (by kernel_rfl) (by kernel_rfl) hd]
 intro j hj
 have:=hT.cell tz_global j (by simpa using hj)
 rw [this]
 congr 1
 simp [List.getD,hj]
theorem agg_of {v:Value} {cs:List Value} (h:v.cells.toList=cs) (hl:cs.length≠1):v=.agg cs.toArray:=by
 have e:v.cells=cs.toArray:=Array.ext' (by rw [h])
 have one:∀ u:Value,v.cells=#[u]→False:=fun u hu=>by
  rw [hu] at h
  subst h
  simp at hl
 cases v with
 | agg ds=>exact congrArg Value.agg e
 | _=>exact (one _ rfl).elim
theorem cells25:Tryz.prog.cellsOf 25=16:=by kernel_rfl
set_option maxRecDepth 100000 in
theorem open_bits {H:Type} {enc:TypeId × Value→H} {W:World} {v:Value} {d:DataW H} {p:List MemPlace} (h:DataW.Trod enc Tryz.prog W 0 (fun _=>true) true 25 v d p):∃ r,Ok r∧v=.agg (cellsB r):=by
 obtain ⟨fuel,hf⟩:=h
 obtain ⟨xs,m,rfl,hx,hlen,hxl,hel⟩:=DataW.trod_array under25 hf
 rw [cells25] at hlen
 have hv:=agg_of (v:=v) rfl (by rw [hlen];decide)
 generalize hcs:v.cells.toList=cs at *
 have hall:∀ i (hi:i<cs.length),∃ z:Nat,cs[i]=.int .u64 (z:Int)∧z<18446744073709551616:=by
  intro i hi
  have:=hel i (by omega)
  rw [cells23,Nat.mul_one,List.drop_eq_getElem_cons hi,List.take_succ_cons,List.take_zero] at this
  cases hq:xs[i]? with
  | none=>have:=List.getElem?_eq_none_iff.1 hq;omega
  | some y =>
   rw [hq] at this
   obtain ⟨z,hz,_,wz⟩:=DataW.trod_int under23 this
   have e:cs[i]=.int .u64 z:=by simpa using hz
   have hb:=bounds_u64 wz
   exact ⟨z.toNat,by rw [e];exact val_int (by omega),by omega⟩
 refine ⟨cs.map fun v=>match v with | .int _ z=>z.toNat | _=>0,⟨by rw [List.length_map];exact hlen,?_⟩,?_⟩
 ·intro x hx
  obtain ⟨v,hv,rfl⟩:=List.mem_map.1 hx
  obtain ⟨i,hi,rfl⟩:=List.mem_iff_getElem.1 hv
  obtain ⟨z,hz,hlt⟩:=hall i hi
  rw [hz]
  simpa using hlt
 ·rw [hv]
  congr 1
  unfold cellsB
  congr 1
  apply List.ext_getElem (by simp)
  intro i h1 h2
  obtain ⟨z,hz,_⟩:=hall i h1
  simp only [List.getElem_map,hz]
  simp
end Go.Proofs.YtkmmlimekachbaaGreatDoor.Bt
/-
  How an argument of type []int is opened: its numbers, where they lie, and that they are at most 2^47 - 4096 bytes. No condition.
-/
namespace Go.Proofs.YtkmmlimekachbaaGreatDoor.Bt
open Go.ChangeShapes Go.WideShapes Go.ChangeAt Go.RowKit
end Go.Proofs.YtkmmlimekachbaaGreatDoor.Bt

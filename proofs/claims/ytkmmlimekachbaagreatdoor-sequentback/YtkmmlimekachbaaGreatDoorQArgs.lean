/-
  How an argument that is a sequent is opened; a world that holds the four listed tables, for a row's witness. No condition.
-/
import Derived.Test.YtkmmlimekachbaaGreatDoorLA
import Derived.Test.YtkmmlimekachbaaGreatDoorLB
import Derived.Test.YtkmmlimekachbaaGreatDoorQG3
namespace Go.Proofs.YtkmmlimekachbaaGreatDoor
open Go.ChangeShapes Go.WideShapes Go.ChangeAt Go.RowKit
open Bt.Bs (Ok)
theorem cells_seq:Tryz.prog.cellsOf 27=17:=by kernel_rfl
set_option maxRecDepth 100000 in
theorem open_seq {H:Type} {enc:TypeId × Value→H} {W:World} {v:Value} {d:DataW H} {p:List MemPlace} (h:DataW.Trod enc Tryz.prog W 0 (fun _=>true) true 27 v d p):∃ r g,Ok r∧Fm.i64 g∧v=.agg (cellsQ r g):=by
 obtain ⟨fuel,hf⟩:=h
 obtain ⟨xs,k,hk,hxy,hcl,hxl,hfs⟩:=DataW.trod_struct Tryz.underlying27 hf
 rw [cells_seq] at hcl
 have hv:=agg_of (v:=v) rfl (by rw [hcl];decide)
 generalize v.cells.toList=cs at *
 match xs,hxl with
 | [y0,y1],_ =>
  have g0:DataW.trod enc Tryz.prog W 0 (fun _=>true) true k 25 (cs.take 16)=some y0:=by have:=hfs 0 _ rfl;simpa [Bt.cells25] using this
  have g1:DataW.trod enc Tryz.prog W 0 (fun _=>true) true k 3 ((cs.drop 16).take 1)=some y1:=by have:=hfs 1 _ rfl;simpa [cells_int] using this
  obtain ⟨r,hr,e0⟩:=Bt.open_bits (v:=.agg (cs.take 16).toArray) (d:=y0.1) (p:=y0.2) ⟨k,g0⟩
  obtain ⟨z,hz,hz2,hz3⟩:=DataW.trod_int Tryz.underlying3 g1
  refine ⟨r,z,hr,bounds64 hz3,?_⟩
  rw [hv]
  congr 1
  injection e0 with e0
  have e1:cs.take 16=Bt.listB r:=by
   have:=congrArg Array.toList e0
   simpa [Bt.cellsB,Bt.listB] using this
  have e2:cs.drop 16=[.int .i64 z]:=by
   rw [← hz]
   exact (List.take_of_length_le (by simp;omega)).symm
  unfold cellsQ
  rw [← e1,← e2,List.take_append_drop]
noncomputable def laidWorldQ (os:Os):World :=
 let w0:=World.holding Tryz.prog os ⟨#[],#[],[]⟩
 let put (h:Array Obj) (g:Nat) (cs:Array Value):Array Obj:=h.modify g fun
  | .cells _ t frozen=>.cells cs t frozen
  | o=>o
 let h1:=put w0.heap 2 (Lib.firstTab.map fun z=>Value.int .u8 z).toArray
 let h2:=put h1 3 ((List.range 16).flatMap fun i=>[Value.int .u8 (Lib.accLo i),Value.int .u8 (Lib.accHi i)]).toArray
 let h3:=put h2 1 Tw.sigV
 let h5:=put h3 0 #[.int .u8 0,.int .u8 1,.int .u8 56,.int .u8 2,.int .u8 57,.int .u8 49,.int .u8 28,.int .u8 3,.int .u8 61,.int .u8 58,.int .u8 42,.int .u8 50,.int .u8 38,.int .u8 29,.int .u8 17,.int .u8 4,.int .u8 62,.int .u8 47,.int .u8 59,.int .u8 36,.int .u8 45,.int .u8 43,.int .u8 51,.int .u8 22,.int .u8 53,.int .u8 39,.int .u8 33,.int .u8 30,.int .u8 24,.int .u8 18,.int .u8 12,.int .u8 5,.int .u8 63,.int .u8 55,.int .u8 48,.int .u8 27,.int .u8 60,.int .u8 41,.int .u8 37,.int .u8 16,.int .u8 46,.int .u8 35,.int .u8 44,.int .u8 21,.int .u8 52,.int .u8 32,.int .u8 23,.int .u8 11,.int .u8 54,.int .u8 26,.int .u8 40,.int .u8 15,.int .u8 34,.int .u8 20,.int .u8 31,.int .u8 10,.int .u8 25,.int .u8 14,.int .u8 19,.int .u8 9,.int .u8 13,.int .u8 8,.int .u8 7,.int .u8 6]
 { w0 with heap:=h5 }
end Go.Proofs.YtkmmlimekachbaaGreatDoor

import Derived.Test.YtkpbpecikibohaaGreatDoorZFind
set_option linter.unusedSimpArgs false
set_option maxRecDepth 100000
set_option maxHeartbeats 1000000
namespace Go.Proofs.YtkpbpecikibohaaGreatDoor
open Go.RowKit Go.Shelf Go.Maps
open Fm (Nd)
def mD (xs:List Int):Array Value:=(xs.map fun x=>Value.int .i64 x).toArray
def ow (w:World) (B:Nat) (v:Value) (xs:List Int):Prop:=∃ q,v=.slice (some ⟨q,0,none⟩) xs.length xs.length/\Cl w q (mD xs) 92/\xs.length<=1000/\B<=q
theorem ow.gP {w:World} {B:Nat} {v:Value} {xs:List Int} (h:ow w B v xs):Bt.nY w v xs:=by
 obtain⟨q,rfl,hc,hl,_⟩:=h
 refine⟨_,_,rfl,by omega,fun k hk=>⟨q,0,rfl,?_⟩⟩
 rw[Nat.zero_add,hc.cell k]
 simp[mD,hk]
theorem ow.later {w w':World} {B:Nat} {v:Value} {xs:List Int} (h:ow w B v xs) (hb:Below w.heap.size w w'):ow w' B v xs:=by
 obtain⟨q,hv,hc,hl⟩:=h
 exact⟨q,hv,hc.later hb,hl⟩
theorem ow.mono {w:World} {B B':Nat} {v:Value} {xs:List Int} (h:ow w B v xs) (hb:B'<=B):ow w B' v xs:=by
 obtain⟨q,hv,hc,hl,hq⟩:=h
 exact⟨q,hv,hc,hl,Nat.le_trans hb hq⟩
structure uh (w:World) (B q:Nat) (v:Value) (ts:List (List Int)):Prop where
 val:v=.slice (some ⟨q,0,none⟩) ts.length ts.length
 lt:q<w.heap.size
 ge:B<=q
 row:∀ i,i<ts.length->∃ rv,w.cell? ⟨q,i,none⟩=some rv/\ow w B rv (ts.getD i [])
theorem uh.later {w w':World} {B q:Nat} {v:Value} {ts:List (List Int)} (h:uh w B q v ts) (hb:Below w.heap.size w w'):uh w' B q v ts:=by
 refine⟨h.val,Nat.lt_of_lt_of_le h.lt hb.size,h.ge,fun i hi => ?_⟩
 obtain⟨rv,hc,hr⟩:=h.row i hi
 exact⟨rv,(World.cell?_of_block (a:=⟨q,i,none⟩) (hb.block q h.lt)).trans hc,hr.later hb⟩
section
variable {ops:Array Oper} {rest:List Oper} {o:Oper} {a:Act} {Q:Exit->Act->World->Prop} {w:World}
theorem jf (hg:o.guard=none) (k:Nat) (ps:Array (Nat × Operand)) (_hop:o.op=Op.buildSlice 179 k ps) (xs:List Int)
 (hrun:(execOp a.eval o).run Tryz.prog w=.ok (.value (.slice (some ⟨w.heap.size,0,none⟩) xs.length xs.length)) (w.alloc (.cells (mD xs) 92))) (hl:xs.length<=1000)
 (hK:∀ w' v,ow w' w.heap.size v xs->Below w.heap.size w w'->wpList Tryz.prog ops Q rest (a.put o.dst v) w'):wpList Tryz.prog ops Q (o :: rest) a w:=by
 refine wpList_plain hg fun K' hK' => ?_
 unfold Oper.wp
 rw[hrun,Oper.upon_value]
 exact hK' _ _ (hK _ _ ⟨_,rfl,(bE w _ _).blk,hl,Nat.le_refl _⟩ (ak w _))
end
theorem Sk (w:World) (a b c d e:Int):(Instr.buildSlice 179 5 #[(0,.int .i64 a),(1,.int .i64 b),(2,.int .i64 c),(3,.int .i64 d),(4,.int .i64 e)]).run Tryz.prog w=.ok (.slice (some ⟨w.heap.size,0,none⟩) 5 5) (w.alloc (.cells (mD [a,b,c,d,e]) 92)):=by kernel_rfl
theorem Pj (w:World) (q0 q1 q2 q3 q4 q5 n0 n1 n2 n3 n4 n5:Nat):(Instr.buildSlice 139 6 #[(0,.slice (some ⟨q0,0,none⟩) n0 n0),(1,.slice (some ⟨q1,0,none⟩) n1 n1),(2,.slice (some ⟨q2,0,none⟩) n2 n2),(3,.slice (some ⟨q3,0,none⟩) n3 n3),(4,.slice (some ⟨q4,0,none⟩) n4 n4),(5,.slice (some ⟨q5,0,none⟩) n5 n5)]).run Tryz.prog w=.ok (.slice (some ⟨w.heap.size,0,none⟩) 6 6) (w.alloc (.cells #[.slice (some ⟨q0,0,none⟩) n0 n0,.slice (some ⟨q1,0,none⟩) n1 n1,.slice (some ⟨q2,0,none⟩) n2 n2,.slice (some ⟨q3,0,none⟩) n3 n3,.slice (some ⟨q4,0,none⟩) n4 n4,.slice (some ⟨q5,0,none⟩) n5 n5] 179)):=by kernel_rfl
theorem Pk (w:World) (q0 q1 q2 n0 n1 n2:Nat):(Instr.buildSlice 139 3 #[(0,.slice (some ⟨q0,0,none⟩) n0 n0),(1,.slice (some ⟨q1,0,none⟩) n1 n1),(2,.slice (some ⟨q2,0,none⟩) n2 n2)]).run Tryz.prog w=.ok (.slice (some ⟨w.heap.size,0,none⟩) 3 3) (w.alloc (.cells #[.slice (some ⟨q0,0,none⟩) n0 n0,.slice (some ⟨q1,0,none⟩) n1 n1,.slice (some ⟨q2,0,none⟩) n2 n2] 179)):=by kernel_rfl
def iH:List (List Int):=[[1],[2],[3,4,5,6,7],[8],[9],[10]]
def nC:List (List Int):=[[11],[12],[13]]
theorem JE (w0:World):Calls Tryz.prog 161 #[] w0 fun e w'=>∃ q v,e=.returned v/\uh w' w0.heap.size q v nC/\Below w0.heap.size w0 w':=by
 go_enter Tryz.func161,Tryz.ntmps161
 go_wp2_with (refine jf rfl 1 _ rfl [11] (by simp[execOp,Act.eval,l9,Result.andThen,mD]) (by decide) ?_)
 intro w1 v0 h0 hb0
 go_wp2_with (refine jf rfl 1 _ rfl [12] (by simp[execOp,Act.eval,l9,Result.andThen,mD]) (by decide) ?_)
 intro w2 v1 h1 hb1
 go_wp2_with (refine jf rfl 1 _ rfl [13] (by simp[execOp,Act.eval,l9,Result.andThen,mD]) (by decide) ?_)
 intro w3 v2 h2 hb2
 have HB:=show Hid (Below w0.heap.size w0 w3) from((hb0.trans (hb1.mono (hb0.size))).trans (hb2.mono (Nat.le_trans (hb0.size) hb1.size)))
 have R0:=show Hid (ow w3 w0.heap.size v0 [11]) from(((h0.later hb1).later hb2)).mono (Nat.le_refl _)
 have R1:=show Hid (ow w3 w0.heap.size v1 [12]) from((h1.later hb2)).mono (hb0.size)
 have R2:=show Hid (ow w3 w0.heap.size v2 [13]) from(h2).mono (Nat.le_trans (hb0.size) hb1.size)
 clear h0 hb0 h1 hb1 h2 hb2
 obtain⟨q0,rfl,-,-,-⟩:=R0.out
 obtain⟨q1,rfl,-,-,-⟩:=R1.out
 obtain⟨q2,rfl,-,-,-⟩:=R2.out
 have hq:=Pk w3 q0 q1 q2 1 1 1
 simp only[List.length_cons,List.length_nil,Nat.zero_add,Nat.reduceAdd] at R0 R1 R2 |-
 go_wp2_with (simp only[hq])
 go_ret
 have hn:=bE w3 #[.slice (some ⟨q0,0,none⟩) 1 1,.slice (some ⟨q1,0,none⟩) 1 1,.slice (some ⟨q2,0,none⟩) 1 1] 179
 refine⟨w3.heap.size,_,rfl,⟨rfl,by simp,HB.out.size,dL 3 ⟨⟨⟨trivial,?_⟩,?_⟩,?_⟩⟩,cO HB.out hn⟩
 ·exact⟨_,Cl.cell hn.blk 0,R0.out.later hn.av⟩
 ·exact⟨_,Cl.cell hn.blk 1,R1.out.later hn.av⟩
 ·exact⟨_,Cl.cell hn.blk 2,R2.out.later hn.av⟩
theorem Pn (w0:World):Calls Tryz.prog 68 #[] w0 fun e w'=>∃ q v,e=.returned v/\uh w' w0.heap.size q v iH/\Below w0.heap.size w0 w':=by
 go_enter Tryz.func68,Tryz.ntmps68
 go_wp2_with (refine jf rfl 1 _ rfl [1] (by simp[execOp,Act.eval,l9,Result.andThen,mD]) (by decide) ?_)
 intro w1 v0 h0 hb0
 go_wp2_with (refine jf rfl 1 _ rfl [2] (by simp[execOp,Act.eval,l9,Result.andThen,mD]) (by decide) ?_)
 intro w2 v1 h1 hb1
 go_wp2_with (refine jf rfl 5 _ rfl [3,4,5,6,7] (by simp[execOp,Act.eval,Sk,Result.andThen,mD]) (by decide) ?_)
 intro w3 v2 h2 hb2
 go_wp2_with (refine jf rfl 1 _ rfl [8] (by simp[execOp,Act.eval,l9,Result.andThen,mD]) (by decide) ?_)
 intro w4 v3 h3 hb3
 go_wp2_with (refine jf rfl 1 _ rfl [9] (by simp[execOp,Act.eval,l9,Result.andThen,mD]) (by decide) ?_)
 intro w5 v4 h4 hb4
 go_wp2_with (refine jf rfl 1 _ rfl [10] (by simp[execOp,Act.eval,l9,Result.andThen,mD]) (by decide) ?_)
 intro w6 v5 h5 hb5
 have HB:=show Hid (Below w0.heap.size w0 w6) from(((((hb0.trans (hb1.mono (hb0.size))).trans (hb2.mono (Nat.le_trans (hb0.size) hb1.size))).trans (hb3.mono (Nat.le_trans (Nat.le_trans (hb0.size) hb1.size) hb2.size))).trans (hb4.mono (Nat.le_trans (Nat.le_trans (Nat.le_trans (hb0.size) hb1.size) hb2.size) hb3.size))).trans (hb5.mono (Nat.le_trans (Nat.le_trans (Nat.le_trans (Nat.le_trans (hb0.size) hb1.size) hb2.size) hb3.size) hb4.size)))
 have R0:=show Hid (ow w6 w0.heap.size v0 [1]) from((((((h0.later hb1).later hb2).later hb3).later hb4).later hb5)).mono (Nat.le_refl _)
 have R1:=show Hid (ow w6 w0.heap.size v1 [2]) from(((((h1.later hb2).later hb3).later hb4).later hb5)).mono (hb0.size)
 have R2:=show Hid (ow w6 w0.heap.size v2 [3,4,5,6,7]) from((((h2.later hb3).later hb4).later hb5)).mono (Nat.le_trans (hb0.size) hb1.size)
 have R3:=show Hid (ow w6 w0.heap.size v3 [8]) from(((h3.later hb4).later hb5)).mono (Nat.le_trans (Nat.le_trans (hb0.size) hb1.size) hb2.size)
 have R4:=show Hid (ow w6 w0.heap.size v4 [9]) from((h4.later hb5)).mono (Nat.le_trans (Nat.le_trans (Nat.le_trans (hb0.size) hb1.size) hb2.size) hb3.size)
 have R5:=show Hid (ow w6 w0.heap.size v5 [10]) from(h5).mono (Nat.le_trans (Nat.le_trans (Nat.le_trans (Nat.le_trans (hb0.size) hb1.size) hb2.size) hb3.size) hb4.size)
 clear h0 hb0 h1 hb1 h2 hb2 h3 hb3 h4 hb4 h5 hb5
 obtain⟨q0,rfl,-,-,-⟩:=R0.out
 obtain⟨q1,rfl,-,-,-⟩:=R1.out
 obtain⟨q2,rfl,-,-,-⟩:=R2.out
 obtain⟨q3,rfl,-,-,-⟩:=R3.out
 obtain⟨q4,rfl,-,-,-⟩:=R4.out
 obtain⟨q5,rfl,-,-,-⟩:=R5.out
 have hq:=Pj w6 q0 q1 q2 q3 q4 q5 1 1 5 1 1 1
 simp only[List.length_cons,List.length_nil,Nat.zero_add,Nat.reduceAdd] at R0 R1 R2 R3 R4 R5 |-
 go_wp2_with (simp only[hq])
 go_ret
 have hn:=bE w6 #[.slice (some ⟨q0,0,none⟩) 1 1,.slice (some ⟨q1,0,none⟩) 1 1,.slice (some ⟨q2,0,none⟩) 5 5,.slice (some ⟨q3,0,none⟩) 1 1,.slice (some ⟨q4,0,none⟩) 1 1,.slice (some ⟨q5,0,none⟩) 1 1] 179
 refine⟨w6.heap.size,_,rfl,⟨rfl,by simp,HB.out.size,dL 6 ⟨⟨⟨⟨⟨⟨trivial,?_⟩,?_⟩,?_⟩,?_⟩,?_⟩,?_⟩⟩,cO HB.out hn⟩
 ·exact⟨_,Cl.cell hn.blk 0,R0.out.later hn.av⟩
 ·exact⟨_,Cl.cell hn.blk 1,R1.out.later hn.av⟩
 ·exact⟨_,Cl.cell hn.blk 2,R2.out.later hn.av⟩
 ·exact⟨_,Cl.cell hn.blk 3,R3.out.later hn.av⟩
 ·exact⟨_,Cl.cell hn.blk 4,R4.out.later hn.av⟩
 ·exact⟨_,Cl.cell hn.blk 5,R5.out.later hn.av⟩
end Go.Proofs.YtkpbpecikibohaaGreatDoor

import Derived.Test.YtkpbpecikibohaaGreatDoorBG4
import Derived.Laws.AppendOwn
import Derived.Maps.AppendAt
import Derived.RangeFuncNested
import Derived.RangeFuncBound
import Derived.RangeFuncCalls
import Derived.RangeFuncLeaves
import Derived.RangeFuncFrom
import Derived.RangeFuncBox
import Derived.Shelf.Abstract
import Derived.Shelf.RegionOpen
import Derived.OwnWalkIn
import Derived.TacticsInMore
import Derived.LoopNIn
import Derived.LoopIn
import Derived.Test.YtkpbpecikibohaaGreatDoorBG2
import Derived.Test.YtkpbpecikibohaaGreatDoorBG3
import Derived.Deep.MidRow
set_option linter.unusedSimpArgs false
set_option maxRecDepth 100000
set_option maxHeartbeats 2000000
namespace Go.Proofs.YtkpbpecikibohaaGreatDoor.Bt
open Go.RowKit Go.Maps
open Bs (Ok wd)
def wT (l:List Nat):List Value:=l.map fun n:Nat=>Value.int .i64 (n:Int)
def nZ (base:Nat) (w:World) (v:Value) (l:List Nat):Prop:=w.ownsRow base 3 1 v l.length (wT l)
theorem nZ.later {base:Nat} {w w':World} {v:Value} {l:List Nat} (h:nZ base w v l) (hb:Below w.heap.size w w'):nZ base w' v l:=by
 refine⟨h.1,?_⟩
 rcases h.2 with h2 | ⟨g,cap,cur,rfl,hg,hh,r⟩
 ·exact Or.inl h2
 ·exact Or.inr ⟨g,cap,cur,rfl,hg,(hb.block g (lt_of_block hh)).trans hh,r⟩
theorem nZ.slice {base:Nat} {w:World} {v:Value} {l:List Nat} (h:nZ base w v l):∃ p c,v=.slice p l.length c:=by
 rcases h.2 with ⟨rfl,h0⟩ | ⟨g,cap,cur,rfl,_⟩
 ·exact⟨_,_,by rw[h0]⟩
 ·exact⟨_,_,rfl⟩
theorem nZ.gP {base:Nat} {w:World} {v:Value} {l:List Nat} (h:nZ base w v l) (hl:l.length<=1024):nY w v (l.map fun n:Nat=>(n:Int)):=by
 rcases h.2 with ⟨rfl,h0⟩ | ⟨g,cap,cur,rfl,hg,hh,h1,h2,h3,h4⟩
 ·obtain rfl:l=[]:=List.eq_nil_of_length_eq_zero h0
  exact⟨_,_,rfl,by simp,fun k hk=>absurd hk (by simp)⟩
 ·refine⟨_,_,by rw[List.length_map],by rw[List.length_map];omega,fun k hk=>⟨g,0,rfl,?_⟩⟩
  have hk':k<l.length:=by simpa using hk
  have:=h.cellAt k (by omega)
  rw[Nat.zero_add,this]
  simp[wT,hk']
theorem nZ.base {b b':Nat} {w:World} {v:Value} {l:List Nat} (h:nZ b w v l) (hb:b'<=b):nZ b' w v l:=by
 refine⟨h.1,?_⟩
 rcases h.2 with h2 | ⟨g,cap,cur,rfl,hg,hh,r⟩
 ·exact Or.inl h2
 ·exact Or.inr ⟨g,cap,cur,rfl,Nat.le_trans hb hg,hh,r⟩
theorem nZ.lt {base:Nat} {w:World} {v:Value} {l:List Nat} (h:nZ base w v l):∀ k,v.ownBlock=some k->base<=k/\k<w.heap.size:=by
 intro k hk
 rcases h.2 with ⟨rfl,_⟩ | ⟨g,cap,cur,rfl,hg,hh,_⟩
 ·cases hk
 ·obtain rfl:g=k:=Option.some.inj hk
  exact⟨hg,lt_of_block hh⟩
def LQ (w wr:World) (r:List Nat) (v:Value) (l:List Nat):Prop:=dK wr w.heap.size r/\nZ (w.heap.size+1) wr v l/\Below w.heap.size w wr/\w.heap.size<wr.heap.size
theorem LQ.later {w wr w':World} {r:List Nat} {v:Value} {l:List Nat} (h:LQ w wr r v l) (hb:Below wr.heap.size wr w'):LQ w w' r v l :=
 ⟨h.1.keep hb h.1.lt,h.2.1.later hb,h.2.2.1.trans (hb.mono h.2.2.1.size),Nat.lt_of_lt_of_le h.2.2.2 hb.size⟩
theorem LQ.grow {w w1 w2:World} {r:List Nat} {v v':Value} {l:List Nat} {k:Nat} {o:Obj} (h:LQ w w1 r v l) (ho:w2.ownsRow (w.heap.size+1) 3 1 v' (l.length+1) (wT l ++ [.int .i64 (k:Int)])) (hg:(w1.alloc o).grownBy w2 v.ownBlock):LQ w w2 r v' (l ++ [k]):=by
 have hb1:=ak w1 o
 have h1:=h.later hb1
 have hb2:Below (w.heap.size+1) (w1.alloc o) w2:=(Below.refl _ _).grown hg (by have:=h1.2.2.2;omega) (fun q hq=>(h1.2.1.lt q hq).1)
 refine⟨h1.1.keep hb2 (Nat.lt_succ_self _),?_,h1.2.2.1.trans (hb2.mono (Nat.le_succ _)),Nat.lt_of_lt_of_le h1.2.2.2 hb2.size⟩
 unfold nZ
 rw[List.length_append,List.length_singleton,show wT (l ++ [k])=wT l ++ [.int .i64 (k:Int)] by simp[wT]]
 exact ho
end Go.Proofs.YtkpbpecikibohaaGreatDoor.Bt
namespace Go.Proofs.YtkpbpecikibohaaGreatDoor.Bt
open Go.RowKit Go.Shelf
open Bs (Ok wd)
attribute [local go_sem] Oper.semAt_some
theorem Zn {F:Fence} {n:Nat} {ops:Array Oper} {rest:List Oper} {o:Oper} {a:Act} {Q:Exit->Act->World->Prop} (w:World) (x:Operand) (hop:o.op=Op.load 51 x) (g:Nat) (hx:a.eval x=.pointer (some ⟨g,0,none⟩))
 {r:List Nat} (h:dK w g r) (hs:r.length=16) (hg:o.guard=none) (hK:wpListIn F n Tryz.prog ops Q rest (a.put o.dst (.agg (aG r))) w):wpListIn F n Tryz.prog ops Q (o :: rest) a w:=by
 refine wpListIn_plain hg fun K' hK' => ?_
 have hrun:=LD w g h hs
 unfold Oper.wpIn
 refine⟨by simp[Oper.about,hop],?_⟩
 rw[Oper.semAt_plain F _ _ (by rw[hop];intro c hc';cases hc')]
 simp[execOp,hop,hx,hrun,Result.andThen]
 exact hK' _ _ hK
theorem Oh {x:Nat} (h0:x≠0) (hx:x<18446744073709551616):IntKind.u64.wrap ((x:Int) - 1)=((x - 1:Nat):Int)/\bits .and .u64 (x:Int) ((x - 1:Nat):Int)=((x &&& (x - 1):Nat):Int):=by
 refine⟨?_,u64_and_nat x (x - 1) hx (by omega)⟩
 rw[IntKind.wrap_u64]
 omega
theorem Oi {n₀:Nat} {W W':World} (hn₀:2<n₀) (h:Below n₀ W W') (hT:Tz W):Tz W':=fun j hj=>(h.cell hn₀).trans (hT j hj)
theorem Oj (n:Nat) (hn:1<=n) (l g n₀:Nat) {r:List Nat} (hr:Ok r) (J Jx:List Nat->World->Prop)
 (hY:∀ pre x W,J pre W->pre.length<(Bs.nums r).length->YieldAt Fence.wide (n - 1) Tryz.prog l #[.int .i64 ((x:Nat):Int)] W fun e W'=>
  (e=.returned (.bool true)/\J (pre ++ [x]) W'/\Below n₀ W W')\/(e=.returned (.bool false)/\Jx (pre ++ [x]) W'))
 (W:World) (hg:dK W g r) (hT:Tz W) (hn₀:2<n₀) (h0:J [] W) :
 CallsIn Fence.wide n Tryz.prog 158 #[.func (.yield l) #[] #[],.pointer (some ⟨g,0,none⟩)] W fun e W'=>(∃ v,e=.returned v) /\
  ((∃ ys,ys=Bs.nums r/\J ys W')\/(∃ pre,pre <+: Bs.nums r/\Jx pre W')):=by
 have HL:=show Hid (r.length=16) from hr.1
 have HW:=show Hid (∀ k,wd r k<18446744073709551616) from fun k=>Bs.nX hr k
 have Yg:=show Hid (Bs.nums r=Bs.rest r 0) from Bs.LB r
 have Ug:=show Hid (∀ i,i<16->Bs.rest r i=(Bs.jS (wd r i)).map (i * 64+·) ++ Bs.rest r (i+1)) from fun i hi=>Bs.rest_step r hi
 have Uh:=show Hid (Bs.rest r 16=[]) from Bs.rest_end r
 have xA:=show Hid (dK W g r) from hg
 have GL:=show Hid (∀ pre x W,J pre W->pre.length<(Bs.nums r).length->YieldAt Fence.wide (n - 1) Tryz.prog l #[.int .i64 ((x:Nat):Int)] W fun e W'=>(e=.returned (.bool true)/\J (pre ++ [x]) W'/\Below n₀ W W')\/(e=.returned (.bool false)/\Jx (pre ++ [x]) W')) from hY
 have Ui:=show Hid (J [] W/\Tz W) from⟨h0,hT⟩
 clear hr hg hT h0 hY
 refine callsIn_of_wp Tryz.func158 rfl trivial ?_ rfl
 simp only[Tryz.ntmps158,List.size_toArray,List.length_cons,List.length_nil,Nat.reduceAdd,Nat.reduceSub,Array.replicate_succ,Array.replicate_zero,List.push_toArray,List.append_toArray,List.nil_append,List.cons_append]
 gi_wp2_with (refine Zn _ _ rfl _ rfl (r:=r) xA.out HL.out rfl ?_)
 gi_loopw [6] (fun iv wr=>∃ (k:Nat) (pre:List Nat),k<=16/\iv=.int .i64 (k:Int)/\Hid (Bs.nums r=pre ++ Bs.rest r k/\J pre wr/\Tz wr)) (fun iv _=>16 - (intOf iv).toNat)
 case atStart=>exact⟨0,[],by omega,rfl,Yg.out,Ui.out.1,Ui.out.2⟩
 case round=>
  obtain⟨k,pre,hk,rfl,HQ⟩:=hrel
  clear Ui Yg xA
  by_cases hlt:k<16
  ·have hix:=fun w=>I4 w HL.out hlt
   have HR1:=show Hid (Bs.rest r k=(Bs.jS (wd r k)).map (k * 64+·) ++ Bs.rest r (k+1)) from Ug.out k hlt
   have HX:=show Hid (wd r k<18446744073709551616) from HW.out k
   clear Ug Uh HW
   gi_wp2
   simp only[show decide ((k:Int)<16)=true from by simp;omega]
   gi_loopw [4] (fun wv wr=>∃ (x:Nat) (pre:List Nat),wv=.int .u64 (x:Int)/\Hid (x<18446744073709551616/\Bs.nums r=pre ++ (Bs.jS x).map (k * 64+·) ++ Bs.rest r (k+1)/\J pre wr/\Tz wr)) (fun wv _=>(Bs.jS (intOf wv).toNat).length)
   case atStart=>exact⟨wd r k,pre,rfl,HX.out,by rw[List.append_assoc,<- HR1.out];exact HQ.out.1,HQ.out.2⟩
   case round=>
    obtain⟨x,pre,rfl,HI⟩:=hrel
    clear HQ HR1 HX hix
    by_cases hz:x=0
    ·subst hz
     have HI2:=show Hid (Bs.nums r=pre ++ Bs.rest r (k+1)/\J pre wr/\Tz wr) from by
      show Bs.nums r=pre ++ Bs.rest r (k+1)/\J pre wr/\Tz wr
      have:=HI.out.2
      rw[Bs.IW] at this
      simpa using this
     clear HI
     gi_wp2
     go_roundw
     case rel=>exact⟨k+1,pre,by omega,gB (by omega),HI2.out.1,HI2.out.2.1,HI2.out.2.2⟩
     case measure=>(simp only[intOf];omega)
    ·have hst:=Bs.IX hz HI.out.1
     have I5:=(Bs.uI hz HI.out.1).1
     obtain⟨ha1,ha2⟩:=Oh hz HI.out.1
     have KT:=show Hid (Calls Tryz.prog 115 #[.int .u64 (x:Int)] wr fun e w'=>e=.returned (.int .i64 ((Lib.ctz 64 x:Nat):Int))/\w'=wr) from LH wr HI.out.2.2.2 hz HI.out.1
     have hnz:((x:Int) != 0)=true:=by rw[mO];simpa using hz
     have HN:=show Hid (Bs.nums r=(pre ++ [k * 64+Lib.ctz 64 x]) ++ (Bs.jS (x &&& (x - 1))).map (k * 64+·) ++ Bs.rest r (k+1)) from by
      show Bs.nums r=_
      rw[HI.out.2.1,hst]
      simp
     have HM:=show Hid ((Bs.jS (x &&& (x - 1))).length<(Bs.jS x).length) from by
      show(Bs.jS (x &&& (x - 1))).length<(Bs.jS x).length
      rw[hst]
      simp
     have yQ:=show Hid (x &&& (x - 1)<18446744073709551616) from Bs.LA _ (by have:=HI.out.1;omega)
     obtain⟨fn,tmps,assign,body,hy,hR⟩:=GL.out pre (k * 64+Lib.ctz 64 x) wr HI.out.2.2.1 (by rw[HN.out];simp)
     rw[show((k * 64+Lib.ctz 64 x:Nat):Int)=(k:Int) * 64+((Lib.ctz 64 x:Nat):Int) by simp] at hy
     clear hst hz
     generalize x &&& (x - 1)=x2 at *
     generalize Lib.ctz 64 x=c at *
     gi_wp2_with (refine⟨trivial,?_⟩;gi_at_call 115;refine(callsIn_wide.2 KT.out).mono ?_;rintro e w' ⟨rfl,rfl⟩)
     refine hR.mono ?_
     clear hR
     rintro e W3 (⟨rfl,hJ3,hk3⟩ | ⟨rfl,hJx3⟩)
     ·gi_wp2
      go_roundw
      case rel=>exact⟨x2,pre ++ [k * 64+c],rfl,yQ.out,HN.out,hJ3,Oi hn₀ hk3 HI.out.2.2.2⟩
      case measure=>exact HM.out
     ·gi_wp2
      refine bodyPost_ret (results_none rfl _ _ _) rfl ?_
      exact⟨⟨_,rfl⟩,.inr ⟨pre ++ [k * 64+c],⟨(Bs.jS x2).map (k * 64+·) ++ Bs.rest r (k+1),by rw[HN.out];simp⟩,hJx3⟩⟩
  ·have HK:=show Hid (Bs.nums r=pre) from by
    have:=HQ.out.1
    rw[show k=16 by omega,Uh.out,List.append_nil] at this
    exact this
   clear Ug Uh HW GL
   gi_wp2
   go_end0
   exact⟨⟨_,rfl⟩,.inl ⟨pre,HK.out.symm,HQ.out.2.1⟩⟩
end Go.Proofs.YtkpbpecikibohaaGreatDoor.Bt
namespace Go.Proofs.YtkpbpecikibohaaGreatDoor.Bt
open Go.RowKit Go.Shelf Go.Maps
open Bs (Ok wd)
attribute [local go_sem] Oper.semAt_some
theorem RI (w:World) (r:List Nat):Calls Tryz.prog 139 #[.agg (aG r)] w fun e w'=>e=.returned (.func (.func 158) #[] #[.pointer (some ⟨w.heap.size,0,none⟩)])/\w'=w.alloc (.cells (aG r) 51):=by
 go_enter Tryz.func139,Tryz.ntmps139
 go_wp2
 go_ret
 exact⟨rfl,rfl⟩
theorem all_stops (n:Nat) (hn:1<=n) (g n₀:Nat) {r:List Nat} (hr:Ok r) (w:World) (hg:dK w g r) (hT:Tz w) (hn₀:2<n₀) :
 SeqStopsK Fence.wide n Tryz.prog 158 #[.pointer (some ⟨g,0,none⟩)] (fun x:Nat=>#[Value.int .i64 (x:Int)]) (Below n₀) (fun ys=>ys=Bs.nums r) (fun pre=>pre <+: Bs.nums r) (Bs.nums r).length w:=fun l J Jx W hW _ _ hY h0=>
 Oj n hn l g n₀ hr J Jx hY W (hg.keep hW hg.lt) (iY hT hW) hn₀ h0
end Go.Proofs.YtkpbpecikibohaaGreatDoor.Bt
namespace Go.Proofs.YtkpbpecikibohaaGreatDoor
open Go.RowKit
def au (r:List Nat) (g:Int):Array Value:=(Bt.bP r ++ [Value.int .i64 g]).toArray
def bM (w:World) (b:Nat) (r:List Nat) (g:Int):Prop:=w.heap[b]?=some (.cells (au r g) 53 (0,0))
section
variable {w w':World} {b:Nat} {r:List Nat} {g:Int}
theorem iM (h:r.length=16):(au r g).size=17:=by simp[au,Bt.bP,h]
theorem bM.range (h:bM w b r g):w.rangeAt b 0 (Bt.bP r):=fun j v hv=>by
 rw[cell_of_row w b _ _ _ _ h]
 rw[List.getElem?_eq_some_iff] at hv
 obtain⟨hj,hv⟩:=hv
 simp only[au,Nat.zero_add,List.getElem?_toArray]
 rw[List.getElem?_append_left hj,List.getElem?_eq_getElem hj,hv]
theorem bM.goal (h:bM w b r g) (hr:r.length=16):w.cell? ⟨b,16,none⟩=some (.int .i64 g):=by
 rw[cell_of_row w b 16 _ _ _ h]
 have hl:(Bt.bP r).length=16:=(by simp[Bt.bP,hr])
 simp only[au,List.getElem?_toArray]
 rw[List.getElem?_append_right (by omega),hl]
 rfl
theorem bM.fr (h:bM w b r g) (j:Nat):w.frozen? ⟨b,j,none⟩=false:=frozen_of_row w b j _ _ h
theorem bM.lt (h:bM w b r g):b<w.heap.size:=lt_of_block h
theorem bM.later {n:Nat} (h:bM w b r g) (hb:Below n w w') (hn:b<n):bM w' b r g:=(hb.block b hn).trans h
theorem bM.drew (h:bM w b r g):bM w.drew b r g:=h
end
theorem Cc (w:World) (b:Nat) {r:List Nat} {g:Int} (h:bM w b r g) (hs:r.length=16):(Instr.loadAt 51 (.pointer (some ⟨b,0,none⟩))).run Tryz.prog w=.ok (.agg (Bt.aG r)) w:=by
 have:=run_loadAt_mid (P:=Tryz.prog) w b 0 51 (Bt.bP r) _ h.range Bt.l6 rfl (by rw[Bt.qK];simp[Bt.bP,hs])
 exact this
theorem I6 {ops:Array Oper} {rest:List Oper} {o:Oper} {a:Act} {Q:Exit->Act->World->Prop} (w:World) (x:Operand) (hop:o.op=Op.load 51 x) (b:Nat) (hx:a.eval x=.pointer (some ⟨b,0,none⟩))
 {r:List Nat} {g:Int} (h:bM w b r g) (hs:r.length=16) (hg:Region.wanted o (yielded ops a.tmps)=true) (hK:wpList Tryz.prog ops Q rest (a.put o.dst (.agg (Bt.aG r))) w):wpList Tryz.prog ops Q (o :: rest) a w:=by
 refine Bt.wpList_want hg fun K' hK' => ?_
 have hrun:=Cc w b h hs
 unfold Oper.wp
 simp[execOp,hop,hx,hrun,Result.andThen]
 exact hK' _ _ hK
end Go.Proofs.YtkpbpecikibohaaGreatDoor

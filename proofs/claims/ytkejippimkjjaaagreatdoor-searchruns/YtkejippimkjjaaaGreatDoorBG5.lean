import Derived.Test.YtkejippimkjjaaaGreatDoorBG4
import Derived.Laws.AppendOwn
import Derived.Maps.AppendAt
import Derived.RangeFuncNested
import Derived.RangeFuncBound
import Derived.RangeFuncCalls
import Derived.RangeFuncLeaves
import Derived.RangeFuncFrom
import Derived.RangeFuncBox
import Derived.Shelf.Abstract
import Derived.Shelf.RegionOpen
import Derived.OwnWalkIn
import Derived.TacticsInMore
import Derived.LoopNIn
import Derived.LoopIn
import Derived.Test.YtkejippimkjjaaaGreatDoorBG2
import Derived.Test.YtkejippimkjjaaaGreatDoorBG3
import Derived.Deep.MidRow
set_option linter.unusedSimpArgs false
set_option maxRecDepth 100000
set_option maxHeartbeats 4000000
namespace Go.Proofs.YtkejippimkjjaaaGreatDoor.Bt
open Go.RowKit Go.Maps
open Bs (Ok wd)
theorem NA:(Tryz.prog.info? 3).map (fun i=>(i.zero,i.size,i.bytes))=some (some (.int .i64 0),1,8):=by kernel_rfl
def sP (l:List Nat):List Value:=l.map fun n:Nat=>Value.int .i64 (n:Int)
def iO (r:List Nat) (k:Nat):List Nat:=(List.range k).filter (Bs.has r)
theorem DK (r:List Nat) (k:Nat):iO r (k+1)=iO r k ++ if Bs.has r k then [k] else []:=by
 unfold iO
 rw[List.range_succ,List.filter_append,List.filter_cons,List.filter_nil]
theorem FT (r:List Nat) (k:Nat):(iO r k).length<=k:=by
 have:=List.length_filter_le (Bs.has r) (List.range k)
 rwa [List.length_range] at this
def mQ (base:Nat) (w:World) (v:Value) (l:List Nat):Prop:=w.ownsRow base 3 1 v l.length (sP l)
theorem mQ.later {base:Nat} {w w':World} {v:Value} {l:List Nat} (h:mQ base w v l) (hb:Below w.heap.size w w'):mQ base w' v l:=by
 refine⟨h.1,?_⟩
 rcases h.2 with h2 | ⟨g,cap,cur,rfl,hg,hh,r⟩
 ·exact Or.inl h2
 ·exact Or.inr ⟨g,cap,cur,rfl,hg,(hb.block g (lt_of_block hh)).trans hh,r⟩
theorem mQ.slice {base:Nat} {w:World} {v:Value} {l:List Nat} (h:mQ base w v l):∃ p c,v=.slice p l.length c:=by
 rcases h.2 with ⟨rfl,h0⟩ | ⟨g,cap,cur,rfl,_⟩
 ·exact⟨_,_,by rw[h0]⟩
 ·exact⟨_,_,rfl⟩
theorem mQ.gQ {base:Nat} {w:World} {v:Value} {l:List Nat} (h:mQ base w v l) (hl:l.length<=1024):jH w v (l.map fun n:Nat=>(n:Int)):=by
 rcases h.2 with ⟨rfl,h0⟩ | ⟨g,cap,cur,rfl,hg,hh,h1,h2,h3,h4⟩
 ·obtain rfl:l=[]:=List.eq_nil_of_length_eq_zero h0
  exact⟨_,_,rfl,by simp,fun k hk=>absurd hk (by simp)⟩
 ·refine⟨_,_,by rw[List.length_map],by rw[List.length_map];omega,fun k hk=>⟨g,0,rfl,?_⟩⟩
  have hk':k<l.length:=by simpa using hk
  have:=h.cellAt k (by omega)
  rw[Nat.zero_add,this]
  simp[sP,hk']
theorem mQ.base {b b':Nat} {w:World} {v:Value} {l:List Nat} (h:mQ b w v l) (hb:b'<=b):mQ b' w v l:=by
 refine⟨h.1,?_⟩
 rcases h.2 with h2 | ⟨g,cap,cur,rfl,hg,hh,r⟩
 ·exact Or.inl h2
 ·exact Or.inr ⟨g,cap,cur,rfl,Nat.le_trans hb hg,hh,r⟩
theorem mQ.lt {base:Nat} {w:World} {v:Value} {l:List Nat} (h:mQ base w v l):∀ k,v.ownBlock=some k->base<=k/\k<w.heap.size:=by
 intro k hk
 rcases h.2 with ⟨rfl,_⟩ | ⟨g,cap,cur,rfl,hg,hh,_⟩
 ·cases hk
 ·obtain rfl:g=k:=Option.some.inj hk
  exact⟨hg,lt_of_block hh⟩
def LQ (w wr:World) (r:List Nat) (v:Value) (l:List Nat):Prop:=dw wr w.heap.size r/\mQ (w.heap.size+1) wr v l/\Below w.heap.size w wr/\w.heap.size<wr.heap.size
theorem LQ.later {w wr w':World} {r:List Nat} {v:Value} {l:List Nat} (h:LQ w wr r v l) (hb:Below wr.heap.size wr w'):LQ w w' r v l :=
 ⟨h.1.keep hb h.1.lt,h.2.1.later hb,h.2.2.1.trans (hb.mono h.2.2.1.size),Nat.lt_of_lt_of_le h.2.2.2 hb.size⟩
theorem LQ.grow {w w1 w2:World} {r:List Nat} {v v':Value} {l:List Nat} {k:Nat} {o:Obj} (h:LQ w w1 r v l) (ho:w2.ownsRow (w.heap.size+1) 3 1 v' (l.length+1) (sP l ++ [.int .i64 (k:Int)])) (hg:(w1.alloc o).grownBy w2 v.ownBlock):LQ w w2 r v' (l ++ [k]):=by
 have hb1:=av w1 o
 have h1:=h.later hb1
 have hb2:Below (w.heap.size+1) (w1.alloc o) w2:=(Below.refl _ _).grown hg (by have:=h1.2.2.2;omega) (fun q hq=>(h1.2.1.lt q hq).1)
 refine⟨h1.1.keep hb2 (Nat.lt_succ_self _),?_,h1.2.2.1.trans (hb2.mono (Nat.le_succ _)),Nat.lt_of_lt_of_le h1.2.2.2 hb2.size⟩
 unfold mQ
 rw[List.length_append,List.length_singleton,show sP (l ++ [k])=sP l ++ [.int .i64 (k:Int)] by simp[sP]]
 exact ho
theorem Ip (w:World) {r:List Nat} (hr:Ok r):Calls Tryz.prog 32 #[.agg (aD r)] w fun e w'=>∃ v,e=.returned v/\mQ w.heap.size w' v (Bs.nums r)/\Below w.heap.size w w':=by
 obtain⟨i0,hi,hz0,hz1,hz2⟩:=info_parts NA
 have KH:=show Hid (∀ (k:Nat) w,k<1024->Calls Tryz.prog 53 #[.agg (aD r),.int .i64 (k:Int)] w fun e w'=>e=.returned (.bool (Bs.has r k))/\w'=w.alloc (.cells (aD r) 25)) from fun k w hk=>by
  have:=cB w hr (k:Int)
  rwa [sO r hk] at this
 have HL:=show Hid (r.length=16) from hr.1
 have HST:=show Hid (∀ k,iO r (k+1)=iO r k ++ if Bs.has r k then [k] else []) from DK r
 have xI:=show Hid (∀ k,(iO r k).length<=k) from FT r
 have HE:=show Hid (iO r 1024=Bs.nums r) from rfl
 have HT:=show Hid (dw (w.alloc (.cells (aD r) 25)) w.heap.size r) from heap_alloc_last w _
 have H0:=show Hid (iO r 0=[]) from rfl
 generalize Bs.nums r=R at *
 clear hr
 go_enter Tryz.func32,Tryz.ntmps32
 go_wp2
 go_loopw [3,4] (fun v n wr=>∃ k:Nat,k<=1024/\n=.int .i64 (k:Int)/\Hid (LQ w wr r v (iO r k))) (fun _ n _=>1024 - (intOf n).toNat)
 case atStart=>exact⟨0,by omega,rfl,HT.out,by rw[H0.out];exact World.ownsRow_nil _ _ _ _,av w _,by simp⟩
 case round=>
  obtain⟨k,hk,rfl,HQ⟩:=hrel
  clear HT H0
  by_cases hlt:k<1024
  ·have NC:=show Hid (∀ w,Calls Tryz.prog 53 #[.agg (aD r),.int .i64 (k:Int)] w fun e w'=>e=.returned (.bool (Bs.has r k))/\w'=w.alloc (.cells (aD r) 25)) from fun w=>KH.out k w hlt
   have HS:=show Hid (iO r (k+1)=iO r k ++ if Bs.has r k then [k] else []) from HST.out k
   have hle:=xI.out k
   clear KH HST xI HE
   generalize iO r k=L at *
   cases hh:Bs.has r k
   ·have HS2:=show Hid (iO r (k+1)=L) from by
     show iO r (k+1)=L
     have:=HS.out
     rw[hh] at this
     simpa using this
    rw[hh] at NC
    clear hh HS
    go_wp2_with (first|(refine nC _ _ rfl _ rfl (r:=r) HQ.out.1 HL.out rfl ?_)|(go_at_call 53;refine(NC.out _).mono ?_;rintro e w' ⟨rfl,rfl⟩))
    go_roundw
    case rel=>exact⟨k+1,by omega,fG (by omega),by rw[HS2.out];exact HQ.out.later (av _ _)⟩
    case measure=>(simp only[intOf];omega)
   ·have HS2:=show Hid (iO r (k+1)=L ++ [k]) from by
     show iO r (k+1)=L ++ [k]
     have:=HS.out
     rw[hh] at this
     simpa using this
    rw[hh] at NC
    clear hh HS
    obtain⟨pv,cv,rfl⟩:=HQ.out.2.1.slice
    have hm:L.length+1<=maxLen:=by unfold maxLen;omega
    go_wp2_with (first|(refine nC _ _ rfl _ rfl (r:=r) HQ.out.1 HL.out rfl ?_)|(go_at_call 53;refine(NC.out _).mono ?_;rintro e w' ⟨rfl,hw⟩;have AQ:=show Hid (LQ w w' r (.slice pv L.length cv) L) from(by rw[hw];exact HQ.out.later (av _ _));clear hw)|(at_builtin;refine wpList_append_own _ rfl (.tmp 12) (.tmp 14) 44 rfl (w.heap.size+1) 3 i0 (.int .i64 0) 1 8 Tryz.underlying44 hi hz0 hz1 hz2 rfl (by decide) _ L.length (sP L) rfl (AQ.out.2.1.later (av w' _)) ⟨w'.heap.size,0,none⟩ 1 1 [.int .i64 (k:Int)] rfl rfl (cell_one_new _ _ _) (by simp[Value.oneCell']) hm (by omega) (by have:=AQ.out.2.2.2;simp;omega) ?_;intro v' w2 ho2 hg2 _;have Iq:=show Hid (LQ w w2 r v' (L ++ [k])) from AQ.out.grow ho2 hg2;obtain⟨ZH,ZI,rfl⟩:=Iq.out.2.1.slice;clear ho2 hg2))
    go_roundw
    case rel=>
     refine⟨k+1,by omega,fG (by omega),?_⟩
     have hq:=Iq.out
     rw[show(L ++ [k]).length=L.length+1 by simp] at hq
     rw[HS2.out]
     exact hq
    case measure=>(simp only[intOf];omega)
  ·have HK:=show Hid (iO r k=R) from by rw[show k=1024 by omega];exact HE.out
   have Iq:=show Hid (LQ w wr r u3 R) from by rw[<- HK.out];exact HQ.out
   clear KH HST xI HE HQ HK
   go_wp2
   go_ret
   exact⟨_,rfl,Iq.out.2.1.base (Nat.le_succ _),Iq.out.2.2.1⟩
end Go.Proofs.YtkejippimkjjaaaGreatDoor.Bt
namespace Go.Proofs.YtkejippimkjjaaaGreatDoor.Bt
open Go.RowKit Go.Shelf
open Bs (Ok wd)
attribute [local go_sem] Oper.semAt_some
theorem VG {F:Fence} {n:Nat} {ops:Array Oper} {rest:List Oper} {o:Oper} {a:Act} {Q:Exit->Act->World->Prop} (w:World) (x:Operand) (hop:o.op=Op.load 25 x) (g:Nat) (hx:a.eval x=.pointer (some ⟨g,0,none⟩))
 {r:List Nat} (h:dw w g r) (hs:r.length=16) (hg:o.guard=none) (hK:wpListIn F n Tryz.prog ops Q rest (a.put o.dst (.agg (aD r))) w):wpListIn F n Tryz.prog ops Q (o :: rest) a w:=by
 refine wpListIn_plain hg fun K' hK' => ?_
 have hrun:=Ik w g h hs
 unfold Oper.wpIn
 refine⟨by simp[Oper.about,hop],?_⟩
 rw[Oper.semAt_plain F _ _ (by rw[hop];intro c hc';cases hc')]
 simp[execOp,hop,hx,hrun,Result.andThen]
 exact hK' _ _ hK
theorem K7 {x:Nat} (h0:x≠0) (hx:x<18446744073709551616):IntKind.u64.wrap ((x:Int) - 1)=((x - 1:Nat):Int)/\bits .and .u64 (x:Int) ((x - 1:Nat):Int)=((x &&& (x - 1):Nat):Int):=by
 refine⟨?_,u64_and_nat x (x - 1) hx (by omega)⟩
 rw[IntKind.wrap_u64]
 omega
theorem K8 {n₀:Nat} {W W':World} (hn₀:0<n₀) (h:Below n₀ W W') (hT:Tz W):Tz W':=fun j hj=>(h.cell hn₀).trans (hT j hj)
theorem K9 (n:Nat) (hn:1<=n) (l g n₀:Nat) {r:List Nat} (hr:Ok r) (J Jx:List Nat->World->Prop)
 (hY:∀ pre x W,J pre W->pre.length<(Bs.nums r).length->YieldAt Fence.wide (n - 1) Tryz.prog l #[.int .i64 ((x:Nat):Int)] W fun e W'=>
  (e=.returned (.bool true)/\J (pre ++ [x]) W'/\Below n₀ W W')\/(e=.returned (.bool false)/\Jx (pre ++ [x]) W'))
 (W:World) (hg:dw W g r) (hT:Tz W) (hn₀:0<n₀) (h0:J [] W) :
 CallsIn Fence.wide n Tryz.prog 113 #[.func (.yield l) #[] #[],.pointer (some ⟨g,0,none⟩)] W fun e W'=>(∃ v,e=.returned v) /\
  ((∃ ys,ys=Bs.nums r/\J ys W')\/(∃ pre,pre <+: Bs.nums r/\Jx pre W')):=by
 have HL:=show Hid (r.length=16) from hr.1
 have HW:=show Hid (∀ k,wd r k<18446744073709551616) from fun k=>Bs.lD hr k
 have Uw:=show Hid (Bs.nums r=Bs.rest r 0) from Bs.Ii r
 have Qz:=show Hid (∀ i,i<16->Bs.rest r i=(Bs.jO (wd r i)).map (i * 64+·) ++ Bs.rest r (i+1)) from fun i hi=>Bs.rest_step r hi
 have QA:=show Hid (Bs.rest r 16=[]) from Bs.rest_end r
 have vY:=show Hid (dw W g r) from hg
 have Ed:=show Hid (∀ pre x W,J pre W->pre.length<(Bs.nums r).length->YieldAt Fence.wide (n - 1) Tryz.prog l #[.int .i64 ((x:Nat):Int)] W fun e W'=>(e=.returned (.bool true)/\J (pre ++ [x]) W'/\Below n₀ W W')\/(e=.returned (.bool false)/\Jx (pre ++ [x]) W')) from hY
 have QB:=show Hid (J [] W/\Tz W) from⟨h0,hT⟩
 clear hr hg hT h0 hY
 refine callsIn_of_wp Tryz.func113 rfl trivial ?_ rfl
 simp only[Tryz.ntmps113,List.size_toArray,List.length_cons,List.length_nil,Nat.reduceAdd,Nat.reduceSub,Array.replicate_succ,Array.replicate_zero,List.push_toArray,List.append_toArray,List.nil_append,List.cons_append]
 gi_wp2_with (refine VG _ _ rfl _ rfl (r:=r) vY.out HL.out rfl ?_)
 gi_loopw [6] (fun iv wr=>∃ (k:Nat) (pre:List Nat),k<=16/\iv=.int .i64 (k:Int)/\Hid (Bs.nums r=pre ++ Bs.rest r k/\J pre wr/\Tz wr)) (fun iv _=>16 - (intOf iv).toNat)
 case atStart=>exact⟨0,[],by omega,rfl,Uw.out,QB.out.1,QB.out.2⟩
 case round=>
  obtain⟨k,pre,hk,rfl,HQ⟩:=hrel
  clear QB Uw vY
  by_cases hlt:k<16
  ·have hix:=fun w=>FP w HL.out hlt
   have HR1:=show Hid (Bs.rest r k=(Bs.jO (wd r k)).map (k * 64+·) ++ Bs.rest r (k+1)) from Qz.out k hlt
   have HX:=show Hid (wd r k<18446744073709551616) from HW.out k
   clear Qz QA HW
   gi_wp2
   simp only[show decide ((k:Int)<16)=true from by simp;omega]
   gi_loopw [4] (fun wv wr=>∃ (x:Nat) (pre:List Nat),wv=.int .u64 (x:Int)/\Hid (x<18446744073709551616/\Bs.nums r=pre ++ (Bs.jO x).map (k * 64+·) ++ Bs.rest r (k+1)/\J pre wr/\Tz wr)) (fun wv _=>(Bs.jO (intOf wv).toNat).length)
   case atStart=>exact⟨wd r k,pre,rfl,HX.out,by rw[List.append_assoc,<- HR1.out];exact HQ.out.1,HQ.out.2⟩
   case round=>
    obtain⟨x,pre,rfl,HI⟩:=hrel
    clear HQ HR1 HX hix
    by_cases hz:x=0
    ·subst hz
     have HI2:=show Hid (Bs.nums r=pre ++ Bs.rest r (k+1)/\J pre wr/\Tz wr) from by
      show Bs.nums r=pre ++ Bs.rest r (k+1)/\J pre wr/\Tz wr
      have:=HI.out.2
      rw[Bs.FE] at this
      simpa using this
     clear HI
     gi_wp2
     go_roundw
     case rel=>exact⟨k+1,pre,by omega,fG (by omega),HI2.out.1,HI2.out.2.1,HI2.out.2.2⟩
     case measure=>(simp only[intOf];omega)
    ·have hst:=Bs.FH hz HI.out.1
     have FR:=(Bs.sK hz HI.out.1).1
     obtain⟨ha1,ha2⟩:=K7 hz HI.out.1
     have KT:=show Hid (Calls Tryz.prog 68 #[.int .u64 (x:Int)] wr fun e w'=>e=.returned (.int .i64 ((Lib.ctz 64 x:Nat):Int))/\w'=wr) from Il wr HI.out.2.2.2 hz HI.out.1
     have hnz:((x:Int) != 0)=true:=by rw[mE];simpa using hz
     have HN:=show Hid (Bs.nums r=(pre ++ [k * 64+Lib.ctz 64 x]) ++ (Bs.jO (x &&& (x - 1))).map (k * 64+·) ++ Bs.rest r (k+1)) from by
      show Bs.nums r=_
      rw[HI.out.2.1,hst]
      simp
     have HM:=show Hid ((Bs.jO (x &&& (x - 1))).length<(Bs.jO x).length) from by
      show(Bs.jO (x &&& (x - 1))).length<(Bs.jO x).length
      rw[hst]
      simp
     have zw:=show Hid (x &&& (x - 1)<18446744073709551616) from Bs.Ig _ (by have:=HI.out.1;omega)
     obtain⟨fn,tmps,assign,body,hy,hR⟩:=Ed.out pre (k * 64+Lib.ctz 64 x) wr HI.out.2.2.1 (by rw[HN.out];simp)
     rw[show((k * 64+Lib.ctz 64 x:Nat):Int)=(k:Int) * 64+((Lib.ctz 64 x:Nat):Int) by simp] at hy
     clear hst hz
     generalize x &&& (x - 1)=x2 at *
     generalize Lib.ctz 64 x=c at *
     gi_wp2_with (refine⟨trivial,?_⟩;gi_at_call 68;refine(callsIn_wide.2 KT.out).mono ?_;rintro e w' ⟨rfl,rfl⟩)
     refine hR.mono ?_
     clear hR
     rintro e W3 (⟨rfl,hJ3,hk3⟩ | ⟨rfl,hJx3⟩)
     ·gi_wp2
      go_roundw
      case rel=>exact⟨x2,pre ++ [k * 64+c],rfl,zw.out,HN.out,hJ3,K8 hn₀ hk3 HI.out.2.2.2⟩
      case measure=>exact HM.out
     ·gi_wp2
      refine bodyPost_ret (results_none rfl _ _ _) rfl ?_
      exact⟨⟨_,rfl⟩,.inr ⟨pre ++ [k * 64+c],⟨(Bs.jO x2).map (k * 64+·) ++ Bs.rest r (k+1),by rw[HN.out];simp⟩,hJx3⟩⟩
  ·have HK:=show Hid (Bs.nums r=pre) from by
    have:=HQ.out.1
    rw[show k=16 by omega,QA.out,List.append_nil] at this
    exact this
   clear Qz QA HW Ed
   gi_wp2
   go_end0
   exact⟨⟨_,rfl⟩,.inl ⟨pre,HK.out.symm,HQ.out.2.1⟩⟩
end Go.Proofs.YtkejippimkjjaaaGreatDoor.Bt
namespace Go.Proofs.YtkejippimkjjaaaGreatDoor.Bt
open Go.RowKit Go.Shelf Go.Maps
open Bs (Ok wd)
attribute [local go_sem] Oper.semAt_some
theorem OL (w:World) (r:List Nat):Calls Tryz.prog 92 #[.agg (aD r)] w fun e w'=>e=.returned (.func (.func 113) #[] #[.pointer (some ⟨w.heap.size,0,none⟩)])/\w'=w.alloc (.cells (aD r) 25):=by
 go_enter Tryz.func92,Tryz.ntmps92
 go_wp2
 go_ret
 exact⟨rfl,rfl⟩
theorem all_stops (n:Nat) (hn:1<=n) (g n₀:Nat) {r:List Nat} (hr:Ok r) (w:World) (hg:dw w g r) (hT:Tz w) (hn₀:0<n₀) :
 SeqStopsK Fence.wide n Tryz.prog 113 #[.pointer (some ⟨g,0,none⟩)] (fun x:Nat=>#[Value.int .i64 (x:Int)]) (Below n₀) (fun ys=>ys=Bs.nums r) (fun pre=>pre <+: Bs.nums r) (Bs.nums r).length w:=fun l J Jx W hW _ _ hY h0=>
 K9 n hn l g n₀ hr J Jx hY W (hg.keep hW hg.lt) (gB hT hW) hn₀ h0
end Go.Proofs.YtkejippimkjjaaaGreatDoor.Bt
namespace Go.Proofs.YtkejippimkjjaaaGreatDoor
open Go.RowKit
def ak (r:List Nat) (g:Int):Array Value:=(Bt.bK r ++ [Value.int .i64 g]).toArray
def aX (w:World) (b:Nat) (r:List Nat) (g:Int):Prop:=w.heap[b]?=some (.cells (ak r g) 27 (0,0))
section
variable {w w':World} {b:Nat} {r:List Nat} {g:Int}
theorem bI (h:r.length=16):(ak r g).size=17:=by simp[ak,Bt.bK,h]
theorem aX.range (h:aX w b r g):w.rangeAt b 0 (Bt.bK r):=fun j v hv=>by
 rw[cell_of_row w b _ _ _ _ h]
 rw[List.getElem?_eq_some_iff] at hv
 obtain⟨hj,hv⟩:=hv
 simp only[ak,Nat.zero_add,List.getElem?_toArray]
 rw[List.getElem?_append_left hj,List.getElem?_eq_getElem hj,hv]
theorem aX.goal (h:aX w b r g) (hr:r.length=16):w.cell? ⟨b,16,none⟩=some (.int .i64 g):=by
 rw[cell_of_row w b 16 _ _ _ h]
 have hl:(Bt.bK r).length=16:=(by simp[Bt.bK,hr])
 simp only[ak,List.getElem?_toArray]
 rw[List.getElem?_append_right (by omega),hl]
 rfl
theorem aX.fr (h:aX w b r g) (j:Nat):w.frozen? ⟨b,j,none⟩=false:=frozen_of_row w b j _ _ h
theorem aX.lt (h:aX w b r g):b<w.heap.size:=lt_of_block h
theorem aX.later {n:Nat} (h:aX w b r g) (hb:Below n w w') (hn:b<n):aX w' b r g:=(hb.block b hn).trans h
theorem aX.drew (h:aX w b r g):aX w.drew b r g:=h
end
theorem OM (w:World) (r:List Nat) (g:Int):aX (w.alloc (.cells (ak r g) 27)) w.heap.size r g:=heap_alloc_last w _
theorem FU (w:World) (b:Nat) {r:List Nat} {g:Int} (h:aX w b r g) (hs:r.length=16):(Instr.loadAt 25 (.pointer (some ⟨b,0,none⟩))).run Tryz.prog w=.ok (.agg (Bt.aD r)) w:=by
 have:=run_loadAt_mid (P:=Tryz.prog) w b 0 25 (Bt.bK r) _ h.range Bt.lZ rfl (by rw[Bt.sN];simp[Bt.bK,hs])
 exact this
theorem xJ {ops:Array Oper} {rest:List Oper} {o:Oper} {a:Act} {Q:Exit->Act->World->Prop} (w:World) (x:Operand) (hop:o.op=Op.load 25 x) (b:Nat) (hx:a.eval x=.pointer (some ⟨b,0,none⟩))
 {r:List Nat} {g:Int} (h:aX w b r g) (hs:r.length=16) (hg:Region.wanted o (yielded ops a.tmps)=true) (hK:wpList Tryz.prog ops Q rest (a.put o.dst (.agg (Bt.aD r))) w):wpList Tryz.prog ops Q (o :: rest) a w:=by
 refine Bt.wpList_want hg fun K' hK' => ?_
 have hrun:=FU w b h hs
 unfold Oper.wp
 simp[execOp,hop,hx,hrun,Result.andThen]
 exact hK' _ _ hK
end Go.Proofs.YtkejippimkjjaaaGreatDoor

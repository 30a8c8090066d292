import Derived.Test.YtkpbpecikibohaaGreatDoorZG5
import Derived.Test.YtkpbpecikibohaaGreatDoorZPrm3
import Derived.Test.YtkpbpecikibohaaGreatDoorZG4
import Derived.Test.YtkpbpecikibohaaGreatDoorFG3
import Derived.Test.YtkpbpecikibohaaGreatDoorFG2
set_option linter.unusedSimpArgs false
set_option maxRecDepth 100000
set_option maxHeartbeats 4000000
namespace Go.Proofs.YtkpbpecikibohaaGreatDoor
open Go.RowKit Go.Shelf Go.Maps
open Fm (Nd)
open Bt.Bs (Ok wd)
theorem Jz {ops:Array Oper} {rest:List Oper} {o:Oper} {a:Act} {Q:Exit->Act->World->Prop} {w:World} (v:Value) (w':World) (hg:o.guard=none) (hrun:(execOp a.eval o).run Tryz.prog w=.ok (.value v) w') (hK:wpList Tryz.prog ops Q rest (a.put o.dst v) w'):wpList Tryz.prog ops Q (o :: rest) a w:=by
 refine wpList_plain hg fun K' hK' => ?_
 unfold Oper.wp
 rw[hrun,Oper.upon_value]
 exact hK' _ _ hK
theorem D7 (w0:World) (mm:Sh):Calls Tryz.prog 117 #[fB mm] w0 fun e w'=>e=.returned (.slice none 0 0)/\Below w0.heap.size w0 w':=by
 unfold fB
 go_enter Tryz.func117,Tryz.ntmps117
 go_wp2_with (refine aC 182 _ rfl _ rfl rfl ?_)
 intro w1 b2 hn1
 go_wp2_with fail
 go_ret
 exact⟨rfl,hn1.av⟩
theorem O6 (w0:World) {b m:Nat} {v:Value} {t:List Nd} (hT:Tb w0 b m v t) {k wb:Nat} {r:List Nat} {g:Int} {tv:Value} (hW:Wk w0 k b r g tv false) (hr:Ok r) (hwb:Cl w0 wb #[.pointer (some ⟨k,0,none⟩)] 136) (mm:Sh) {aY:List Nat} (eO:aY=Bt.bT r mm.id) :
 Calls Tryz.prog 127 #[fB mm,.pointer (some ⟨wb,0,none⟩)] w0 fun e w'=>∃ sv,e=.returned sv/\dV sv [(aY,g)] w'/\PE w0 w' b m v k r g tv t false:=by
 have hrs:Ok aY:=by rw[eO];exact gu hr mm.id
 have KR:=show Hid (∀ W:World,Below w0.heap.size w0 W->Calls Tryz.prog 124 #[.pointer (some ⟨k,0,none⟩),.agg (bB mm)] W fun e w'=>e=.returned (.agg (au aY g))/\Below W.heap.size W w') from fun W h=>by rw[eO];exact jB W (hW.later h) hr mm
 have HT:=show Hid (Tb w0 b m v t/\Wk w0 k b r g tv false) from⟨hT,hW⟩
 have HW:=show Hid (∀ W:World,Below w0.heap.size w0 W->W.cell? ⟨wb,0,none⟩=some (.pointer (some ⟨k,0,none⟩))) from fun W h=>(hwb.later h).cell 0
 clear hT hW hwb eO
 unfold fB
 go_enter Tryz.func127,Tryz.ntmps127
 go_wp2_with (refine aC 182 _ rfl _ rfl rfl ?_)
 intro w1 b2 hn1
 have c1:=HW.out w1 hn1.av
 have H1:=show Hid (Below w0.heap.size w0 w1/\Cl w1 b2 (bB mm) 182) from⟨hn1.av,hn1.blk⟩
 clear hn1 HW
 go_wp2_with (refine fq 182 _ rfl b2 rfl _ _ H1.out.2 rfl Tryz.underlying182 jW rfl ?_)
 refine Calls.mono (KR.out w1 H1.out.1) ?_
 rintro e w2 ⟨rfl,hb2⟩
 have hq:=Br w2 hrs.1 g
 have H2:=show Hid (Below w0.heap.size w0 w2) from H1.out.1.trans (hb2.mono H1.out.1.size)
 clear hb2 H1 KR c1
 go_wp2_with (refine Jz (.slice (some ⟨w2.heap.size,0,none⟩) 1 1) (w2.alloc (.cells (bN [(aY,g)]) 53)) rfl (by simp[execOp,Act.eval,hq,Result.andThen]) ?_)
 go_ret
 have hn:=bE w2 (bN [(aY,g)]) 53
 have hb3:=cO H2.out hn
 exact⟨_,rfl,⟨w2.heap.size,rfl,hn.blk⟩,⟨v,HT.out.1.later hb3,dh.refl _ _⟩,HT.out.2.later hb3,Kp.of_below hb3⟩
def jE (i:Nat) (t:List Nd) (r:List Nat) (g:Int) (m:Sh):List SQ × List Nd × Bool:=match i with
 | 2=>([(aD (Bt.bT r m.id) [m.a,m.b],g)],t,false)
 | 3=>([(aD (Bt.bT r m.id) [m.b],g)],t,false)
 | 4=>([(Bt.bT r m.id,g)],t,false)
 | 5=>([(aD (Bt.bT r m.id) [(Fm.put (Fm.put t (aH 5 m.d m.b)).2.2 (aH 5 m.c (Fm.put t (aH 5 m.d m.b)).1)).1],g)],(Fm.put (Fm.put t (aH 5 m.d m.b)).2.2 (aH 5 m.c (Fm.put t (aH 5 m.d m.b)).1)).2.2,((false || ((Fm.put t (aH 5 m.d m.b)).2.1 != 0)) || ((Fm.put (Fm.put t (aH 5 m.d m.b)).2.2 (aH 5 m.c (Fm.put t (aH 5 m.d m.b)).1)).2.1 != 0)))
 | 6=>([(aD (Bt.bT r m.id) [(Fm.put t (aH 5 m.c m.b)).1,(Fm.put (Fm.put t (aH 5 m.c m.b)).2.2 (aH 5 m.d m.b)).1],g)],(Fm.put (Fm.put t (aH 5 m.c m.b)).2.2 (aH 5 m.d m.b)).2.2,((false || ((Fm.put t (aH 5 m.c m.b)).2.1 != 0)) || ((Fm.put (Fm.put t (aH 5 m.c m.b)).2.2 (aH 5 m.d m.b)).2.1 != 0)))
 | 7=>([(aD r [m.a],m.b)],t,false)
 | 8=>([(r,m.a),(r,m.b)],t,false)
 | 9=>([(aD (Bt.bT r m.id) [m.a],g),(aD (Bt.bT r m.id) [m.b],g)],t,false)
 | 10=>([(r,m.a)],t,false)
 | 11=>([(r,m.b)],t,false)
 | 12=>([(aD (Bt.bT r m.id) [(Fm.put t (aH 5 m.d m.b)).1],m.a),(aD (Bt.bT r m.id) [m.b],g)],(Fm.put t (aH 5 m.d m.b)).2.2,(false || ((Fm.put t (aH 5 m.d m.b)).2.1 != 0)))
 | _=>([],t,false)
def iV (sv:Value) (l:List SQ) (w:World):Prop:=(l=[]/\sv=.slice none 0 0)\/dV sv l w
theorem D8 {w0 w:World} {b m k:Nat} {v tv:Value} {r:List Nat} {g:Int} {t:List Nd} (hT:Tb w0 b m v t) (hW:Wk w0 k b r g tv false) (hb:Below w0.heap.size w0 w):PE w0 w b m v k r g tv t false:=⟨⟨v,hT.later hb,dh.refl _ _⟩,hW.later hb,Kp.of_below hb⟩
theorem R7 (w0:World) {b m:Nat} {v:Value} {t:List Nd} (hT:Tb w0 b m v t) {k wb:Nat} {r:List Nat} {g:Int} {tv:Value} (hW:Wk w0 k b r g tv false) (hr:Ok r) (hwb:Cl w0 wb #[.pointer (some ⟨k,0,none⟩)] 136) (mm:Sh) (hgb:Fm.i64 mm.b) (hgc:Fm.i64 mm.c) (hgd:Fm.i64 mm.d) :
 ∀ i,i<13->∃ (gf:Nat) (cs:List Value),jJ wb i=.func (.func gf) #[] cs.toArray/\(∀ vs w,(callFunc gf vs).run Tryz.prog w=.ok (.enter gf vs) w)/\Calls Tryz.prog gf ([fB mm] ++ cs).toArray w0 fun e w'=>∃ sv,e=.returned sv/\iV sv (jE i t r g mm).1 w'/\PE w0 w' b m v k r g tv (jE i t r g mm).2.1 (jE i t r g mm).2.2:=by
 refine dL 13 ⟨⟨⟨⟨⟨⟨⟨⟨⟨⟨⟨⟨⟨trivial,?c0⟩,?c1⟩,?c2⟩,?c3⟩,?c4⟩,?c5⟩,?c6⟩,?c7⟩,?c8⟩,?c9⟩,?c10⟩,?c11⟩,?c12⟩
 case c0=>exact⟨_,[],rfl,enters_of Tryz.func117 (by kernel_rfl) rfl,(D7 w0 mm).mono fun e w' h=>⟨_,h.1,Or.inl ⟨rfl,rfl⟩,D8 hT hW h.2⟩⟩
 case c1=>exact⟨_,[],rfl,enters_of Tryz.func117 (by kernel_rfl) rfl,(D7 w0 mm).mono fun e w' h=>⟨_,h.1,Or.inl ⟨rfl,rfl⟩,D8 hT hW h.2⟩⟩
 case c2=>exact⟨_,[.pointer (some ⟨wb,0,none⟩)],rfl,enters_of Tryz.func122 (by kernel_rfl) rfl,(OY w0 hT hW hr hwb mm rfl).mono fun e w' ⟨sv,h1,h2,h3⟩=>⟨sv,h1,Or.inr h2,h3⟩⟩
 case c3=>exact⟨_,[.pointer (some ⟨wb,0,none⟩)],rfl,enters_of Tryz.func126 (by kernel_rfl) rfl,(OZ w0 hT hW hr hwb mm rfl).mono fun e w' ⟨sv,h1,h2,h3⟩=>⟨sv,h1,Or.inr h2,h3⟩⟩
 case c4=>exact⟨_,[.pointer (some ⟨wb,0,none⟩)],rfl,enters_of Tryz.func127 (by kernel_rfl) rfl,(O6 w0 hT hW hr hwb mm rfl).mono fun e w' ⟨sv,h1,h2,h3⟩=>⟨sv,h1,Or.inr h2,h3⟩⟩
 case c5=>exact⟨_,[.pointer (some ⟨wb,0,none⟩)],rfl,enters_of Tryz.func128 (by kernel_rfl) rfl,(O4 w0 hT hW hr hwb mm hgb hgc hgd rfl rfl rfl).mono fun e w' ⟨sv,h1,h2,h3⟩=>⟨sv,h1,Or.inr h2,h3⟩⟩
 case c6=>exact⟨_,[.pointer (some ⟨wb,0,none⟩)],rfl,enters_of Tryz.func130 (by kernel_rfl) rfl,(O5 w0 hT hW hr hwb mm hgb hgc hgd rfl rfl rfl).mono fun e w' ⟨sv,h1,h2,h3⟩=>⟨sv,h1,Or.inr h2,h3⟩⟩
 case c7=>exact⟨_,[.pointer (some ⟨wb,0,none⟩)],rfl,enters_of Tryz.func132 (by kernel_rfl) rfl,(O1 w0 hT hW hr hwb mm rfl).mono fun e w' ⟨sv,h1,h2,h3⟩=>⟨sv,h1,Or.inr h2,h3⟩⟩
 case c8=>exact⟨_,[.pointer (some ⟨wb,0,none⟩)],rfl,enters_of Tryz.func134 (by kernel_rfl) rfl,(Mw w0 hT hW hr hwb mm rfl).mono fun e w' ⟨sv,h1,h2,h3⟩=>⟨sv,h1,Or.inr h2,h3⟩⟩
 case c9=>exact⟨_,[.pointer (some ⟨wb,0,none⟩)],rfl,enters_of Tryz.func135 (by kernel_rfl) rfl,(Mx w0 hT hW hr hwb mm rfl).mono fun e w' ⟨sv,h1,h2,h3⟩=>⟨sv,h1,Or.inr h2,h3⟩⟩
 case c10=>exact⟨_,[.pointer (some ⟨wb,0,none⟩)],rfl,enters_of Tryz.func136 (by kernel_rfl) rfl,(MB w0 hT hW hr hwb mm rfl).mono fun e w' ⟨sv,h1,h2,h3⟩=>⟨sv,h1,Or.inr h2,h3⟩⟩
 case c11=>exact⟨_,[.pointer (some ⟨wb,0,none⟩)],rfl,enters_of Tryz.func137 (by kernel_rfl) rfl,(MC w0 hT hW hr hwb mm rfl).mono fun e w' ⟨sv,h1,h2,h3⟩=>⟨sv,h1,Or.inr h2,h3⟩⟩
 case c12=>exact⟨_,[.pointer (some ⟨wb,0,none⟩)],rfl,enters_of Tryz.func138 (by kernel_rfl) rfl,(ME w0 hT hW hr hwb mm hgb hgc hgd rfl rfl).mono fun e w' ⟨sv,h1,h2,h3⟩=>⟨sv,h1,Or.inr h2,h3⟩⟩
theorem R8 {t:List Nd} (hO:Fm.Ok t) (i:Int):Fm.i64 (bO t i).b/\Fm.i64 (bO t i).c/\Fm.i64 (bO t i).d:=by
 have hz:Fm.i64 0:=Fm.eT (by omega) (by omega)
 have hn:∀ j,Fm.i64 (ay t j).l/\Fm.i64 (ay t j).r:=fun j=>by
  unfold ay
  split
  ·rename_i h
   have hh:=Fm.dJ.1 h
   have hj:j.toNat<t.length:=by omega
   have e:t.getD j.toNat Fm.z=t[j.toNat]:=by simp[List.getD,hj]
   rw[e]
   have:=hO.gd _ (List.getElem_mem hj)
   exact⟨this.2.2.1,this.2.2.2⟩
  ·exact⟨hz,hz⟩
 refine⟨(hn i).2,?_,?_⟩
 ·show Fm.i64 (if (ay t i).k=5 then (ay t (ay t i).l).l else 0)
  split
  ·exact(hn _).1
  ·exact hz
 ·show Fm.i64 (if (ay t i).k=5 then (ay t (ay t i).l).r else 0)
  split
  ·exact(hn _).2
  ·exact hz
theorem R9 {i:Nat} {t:List Nd} {r:List Nat} {g:Int} {m:Sh}:∃ u,(jE i t r g m).2.1=t ++ u:=by
 have p1:∀ (t:List Nd) (n:Nd),∃ u,(Fm.put t n).2.2=t ++ u:=fun t n=>(Fm.QT t n).2
 have p2:∀ (t:List Nd) (n n2:Nd),∃ u,(Fm.put (Fm.put t n).2.2 n2).2.2=t ++ u:=fun t n n2=>by
  obtain⟨u,hu⟩:=p1 t n
  obtain⟨u2,hu2⟩:=p1 (Fm.put t n).2.2 n2
  exact⟨u ++ u2,by rw[hu2,hu,List.append_assoc]⟩
 unfold jE
 split
 case h_4=>exact p2 t _ _
 case h_5=>exact p2 t _ _
 case h_11=>exact p1 t _
 all_goals exact⟨[],by simp⟩
def aO (t:List Nd) (r:List Nat) (g:Int) (ru main:Int):List SQ × List Nd × Int :=
 if eP t r g≠0 then ([],t,eP t r g) else if findF t r g ru main=false then ([],t,90)
 else if (jE (ru - 1).toNat t r g (bO t main)).2.2=true then ([],t,30) else ((jE (ru - 1).toNat t r g (bO t main)).1,(jE (ru - 1).toNat t r g (bO t main)).2.1,0)
theorem Bu {t:List Nd} {r:List Nat} {g ru main:Int} (h:findF t r g ru main=true):(ru - 1).toNat<13:=by
 unfold findF at h
 simp at h
 have:=h.1.2
 omega
theorem Sb {t u:List Nd}:xW (t ++ u) (t.length:Int)=(0,t):=by
 unfold xW
 rw[if_pos ⟨by omega,by simp;omega⟩]
 simp
theorem D9 {w0 w1 W:World} {b m k:Nat} {v tv:Value} {r:List Nat} {g:Int} {t':List Nd} {fl:Bool} (h1:Below w0.heap.size w0 w1) (hk:w0.heap.size<=k) (h:PE w1 W b m v k r g tv t' fl):∃ v',Tb W b m v' t'/\dh w0.heap.size v v'/\Kp (Ft b m v) w0 W:=by
 obtain⟨v',h2,h3⟩:=h.tb
 refine⟨v',h2,fun i hi => ?_,(Kp.of_below (S:=Ft b m v) h1).trans h.kp fun i hi => ?_⟩
 ·rcases h3 i hi with e | e
  ·exact Or.inl e
  ·exact Or.inr (Nat.le_trans h1.size e)
 ·rcases hi with e | e
  ·exact Or.inl e
  ·exact Or.inr (by omega)
theorem Sc {w:World} {k b T wb:Nat} {r:List Nat} {g:Int} {L:List T3} (h:Made w k b T wb r g L) {i:Nat} (hi:i<13):∃ n fv,(c3 (L.getD i t30)).toArray=#[.int .i64 n,fv,jJ wb i]:=by
 have hl:i<L.length:=by rw[h.len];exact hi
 have e:L.getD i t30=L[i]:=by simp[List.getD,hl]
 exact⟨_,_,by rw[e,<- h.Vf i hl];rfl⟩
theorem Ea (w0:World) {b m:Nat} {v:Value} {t:List Nd} (hT:Tb w0 b m v t) (hZ:Bt.Tz w0) {r:List Nat} (hr:Ok r) (g ru main:Int) :
 Calls Tryz.prog 98 #[.pointer (some ⟨b,0,none⟩),.agg (au r g),.int .i64 ru,.int .i64 main] w0 fun e w'=>∃ sv,e=.returned (.tuple #[sv,.int .i64 (aO t r g ru main).2.2])/\iV sv (aO t r g ru main).1 w'/\After w0 b m v (aO t r g ru main).2.1 w':=by
 have hl:=hr.1
 have HT:=show Hid (∀ W:World,Below w0.heap.size w0 W->Tb W b m v t/\Bt.Tz W) from fun W h=>⟨hT.later h,Bt.iY hZ h⟩
 have HA:=show Hid (∀ W:World,Below w0.heap.size w0 W->After w0 b m v t W) from fun W h=>After.of_below hT h
 have HI:=show Hid (Fm.i64 (bO t main).b/\Fm.i64 (bO t main).c/\Fm.i64 (bO t main).d) from R8 hT.ok main
 clear hT hZ
 obtain⟨rq,hrq⟩:∃ q,q=eP t r g:=⟨_,rfl⟩
 have MG:=show Hid (eP t r g=rq) from hrq.symm
 obtain⟨ff,MH⟩:∃ q,q=findF t r g ru main:=⟨_,rfl⟩
 have Qr:=show Hid (findF t r g ru main=ff) from MH.symm
 obtain⟨P,hP⟩:∃ q,q=aO t r g ru main:=⟨_,rfl⟩
 have HP:=show Hid (P=if rq≠0 then ([],t,rq) else if ff=false then ([],t,90) else if (jE (ru - 1).toNat t r g (bO t main)).2.2=true then ([],t,30) else ((jE (ru - 1).toNat t r g (bO t main)).1,(jE (ru - 1).toNat t r g (bO t main)).2.1,0)) from by rw[hP,hrq,MH];rfl
 rw[<- hP]
 clear hrq MH hP
 go_enter Tryz.func98,Tryz.ntmps98
 go_wp2_with (refine aC 53 _ rfl _ rfl rfl ?_)
 intro w1 b5 hn1
 have H1:=show Hid (sI w0 w1 b5 r g) from⟨hn1.blk,hn1.av,hn1.ge⟩
 clear hn1
 have KR:=show Hid _ from xJ w1 (HT.out w1 H1.out.av).1 (HT.out w1 H1.out.av).2 hr g
 rw[MG.out] at KR
 go_wp2_with (refine dU _ _ rfl b5 rfl H1.out.s hl rfl ?_)
 refine Calls.mono KR.out ?_
 rintro e w2 ⟨rfl,hb2⟩
 have H2:=show Hid _ from H1.out.later hb2
 clear H1 hb2 KR MG
 by_cases hz:rq=0
 ·subst hz
  have KW:=show Hid _ from sU w2 b hr g
  go_wp2_with (refine dU _ _ rfl b5 rfl H2.out.s hl rfl ?_)
  refine Calls.mono KW.out ?_
  rintro e w3 ⟨k,T,wb,L,rfl,Vv,hk3,hb3⟩
  have H3:=show Hid _ from H2.out.later hb3
  have KF:=show Hid _ from OW w3 (HT.out w3 H3.out.av).1 Vv hr ru main
  have HM:=show Hid (Made w3 k b T wb r g L/\w0.heap.size<=k) from⟨Vv,Nat.le_trans H2.out.av.size hk3⟩
  rw[Qr.out] at KF
  clear Vv hk3 KW H2 hb3
  cases ff
  ·obtain rfl:P=([],t,90):=by rw[HP.out];rfl
   clear HP Qr
   go_wp2_with fail
   refine Calls.mono KF.out ?_
   rintro e w4 ⟨rfl,hb4⟩
   have H4:=show Hid _ from H3.out.later hb4
   clear H3 hb4 KF HM
   unfold fB
   rw[if_neg Bool.false_ne_true,if_neg Bool.false_ne_true]
   go_wp2_with (refine aN 186 rfl zT tZ rfl ?_)
   intro w5 b11 fZ
   go_wp2_with (refine aN 182 rfl _ uN rfl ?_)
   intro w6 b12 jH
   go_wp2_with (refine aQ 186 rfl rfl _ _ rfl b11 rfl zT rfl _ _ (Cl.new fZ.blk jH) sizeT rfl zF ?_)
   intro w7 mF iI
   go_wp2_with (refine aQ 182 rfl rfl _ _ rfl b12 rfl (bB kT) rfl _ _ (Cl.kp jH.blk iI (by have:=Cl.lt fZ.blk;have:=jH.ge;omega)) jW rfl (kX kT) ?_)
   intro w8 hc8 gI
   go_wp2_with fail
   go_ret2
   have e5:=H4.out.av.size;have e6:=fZ.ge;have e7:=jH.ge;have e8:=fZ.av.size
   exact⟨_,rfl,Or.inl ⟨rfl,rfl⟩,HA.out _ (bR (bR (cO (cO H4.out.av fZ) jH) iI (by omega)) gI (by omega))⟩
  ·have JA:=Bu Qr.out
   obtain⟨n3,Vw,e3⟩:=Sc HM.out.1 JA
   obtain⟨i,hi⟩:∃ i,i=(ru - 1).toNat:=⟨_,rfl⟩
   rw[<- hi] at JA e3 HP
   rw[<- hi] at KF
   have YF:=show Hid (Calls Tryz.prog 146 #[.pointer (some ⟨k,0,none⟩),.int .i64 ru,.int .i64 main] w3 fun e w'=>e=.returned (.tuple #[.agg #[.int .i64 n3,Vw,jJ wb i],fB (bO t main),.bool true])/\Below w3.heap.size w3 w') from by
    have:=KF.out
    rw[if_pos rfl,if_pos rfl,e3] at this
    exact this
   have YG:=show Hid ((#[.int .i64 n3,Vw,jJ wb i]:Array Value).all (·.oneCell')=true) from by rw[<- e3];exact zB _
   have YH:=show Hid (∀ W:World,Below w3.heap.size w3 W->∃ (gf:Nat) (cs:List Value),jJ wb i=.func (.func gf) #[] cs.toArray/\(∀ (vs:Array Value) (w:World),(callFunc gf vs).run Tryz.prog w=.ok (.enter gf vs) w)/\Calls Tryz.prog gf ([Value.agg (bB (bO t main))] ++ cs).toArray W fun e w'=>∃ sv,e=.returned sv/\iV sv (jE i t r g (bO t main)).1 w'/\PE W w' b m v k r g (.slice (some ⟨T,0,none⟩) 13 13) (jE i t r g (bO t main)).2.1 (jE i t r g (bO t main)).2.2) from fun W h=>R7 W (HT.out W (H3.out.av.trans (h.mono H3.out.av.size))).1 (HM.out.1.wk.later h) hr (HM.out.1.gU.later h) (bO t main) HI.out.1 HI.out.2.1 HI.out.2.2 i JA
   have YI:=show Hid (∃ u,(jE i t r g (bO t main)).2.1=t ++ u) from R9
   clear KF Qr hi e3 HI
   generalize bO t main=mm at *
   generalize jE i t r g mm=X at *
   generalize jJ wb i=pv at *
   go_wp2_with fail
   refine Calls.mono YF.out ?_
   rintro e w4 ⟨rfl,hb4⟩
   have H4:=show Hid _ from H3.out.later hb4
   have jc:=show Hid (Below w3.heap.size w3 w4) from hb4
   clear H3 hb4 YF
   unfold fB
   go_wp2_with (refine aN 186 rfl zT tZ rfl ?_)
   intro w5 b11 fZ
   go_wp2_with (refine aN 182 rfl _ uN rfl ?_)
   intro w6 b12 jH
   go_wp2_with (refine aQ 186 rfl rfl _ _ rfl b11 rfl _ rfl _ _ (Cl.new fZ.blk jH) sizeT rfl YG.out ?_)
   intro w7 mF iI
   go_wp2_with (refine aQ 182 rfl rfl _ _ rfl b12 rfl (bB mm) rfl _ _ (Cl.kp jH.blk iI (by have:=Cl.lt fZ.blk;have:=jH.ge;omega)) jW rfl (kX mm) ?_)
   intro w8 hc8 gI
   have e5:=H4.out.av.size;have e6:=fZ.ge;have e7:=jH.ge;have e8:=fZ.av.size
   have e9:=jc.out.size;have e10:=Cl.lt fZ.blk
   have H8:=show Hid (Below w0.heap.size w0 w8/\Below w3.heap.size w3 w8/\Cl w8 b11 #[.int .i64 n3,Vw,pv] 186/\Cl w8 b12 (bB mm) 182) from⟨bR (bR (cO (cO H4.out.av fZ) jH) iI (by omega)) gI (by omega),bR (bR (cO (cO jc.out fZ) jH) iI (by omega)) gI (by omega),Cl.kp mF gI (by omega),hc8⟩
   have YJ:=show Hid _ from wO w8 (HT.out w8 H8.out.1).1
   clear H4 jc fZ jH mF iI hc8 gI YG e5 e6 e7 e8 e9 e10
   go_wp2_with fail
   refine Calls.mono YJ.out ?_
   rintro e w9 ⟨rfl,hw9⟩
   subst w9
   clear YJ
   have cpv:w8.cell? ⟨b11,2,none⟩=some pv:=H8.out.2.2.1.cell 2
   obtain⟨gf,cs,rfl,hcf,KP⟩:=YH.out w8 H8.out.2.1
   have YK:=show Hid _ from KP
   clear KP YH
   go_wp2_with (first|(refine fq 182 _ rfl b12 rfl _ _ H8.out.2.2.2 rfl Tryz.underlying182 jW rfl ?_)|(refine vZ rfl gf _ [.tmp 40] _ rfl [Value.agg (bB mm)] cs rfl rfl hcf ?_))
   refine Calls.mono YK.out ?_
   rintro e DC ⟨sv,rfl,hS,hE⟩
   have HE:=show Hid _ from hE
   have HS:=show Hid _ from hS
   have c19:=hE.wk.U3 hl
   clear hS hE YK
   refine⟨_,rfl,?_⟩
   obtain⟨l,t',fl⟩:=X
   simp only at HE HS HP YI c19
   cases fl
   ·obtain rfl:P=(l,t',0):=by rw[HP.out];rfl
    clear HP
    go_wp2_with fail
    go_ret2
    exact⟨_,rfl,HS.out,D9 H8.out.1 HM.out.2 HE.out⟩
   ·obtain rfl:P=([],t,30):=by rw[HP.out];rfl
    clear HP
    obtain⟨u,rfl⟩:=YI.out
    obtain⟨v',hT',hL',hK'⟩:=D9 H8.out.1 HM.out.2 HE.out
    have KC:=show Hid _ from Gw DC hT' (t.length:Int)
    rw[Sb] at KC
    have HL:=show Hid _ from And.intro hL' hK'
    clear hT' hL' hK' HE HS
    go_wp2_with fail
    refine Calls.mono KC.out ?_
    rintro e DI ⟨rfl,hA⟩
    have HX:=show Hid _ from After.trans HL.out.1 HL.out.2 hA
    clear hA KC HL
    go_wp2_with fail
    go_ret2
    exact⟨_,rfl,Or.inl ⟨rfl,rfl⟩,HX.out⟩
 ·have hzb:(rq != 0)=true:=by simpa using hz
  obtain rfl:P=([],t,rq):=by rw[HP.out,if_pos hz]
  clear hz HP
  go_wp2_with fail
  go_ret2
  exact⟨_,rfl,Or.inl ⟨rfl,rfl⟩,HA.out _ H2.out.av⟩
end Go.Proofs.YtkpbpecikibohaaGreatDoor

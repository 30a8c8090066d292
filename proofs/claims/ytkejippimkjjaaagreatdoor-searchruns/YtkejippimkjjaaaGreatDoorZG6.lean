import Derived.Test.YtkejippimkjjaaaGreatDoorZG5
import Derived.Test.YtkejippimkjjaaaGreatDoorZPrm3
import Derived.Test.YtkejippimkjjaaaGreatDoorZG4
import Derived.Test.YtkejippimkjjaaaGreatDoorFG3
import Derived.Test.YtkejippimkjjaaaGreatDoorFG2
set_option linter.unusedSimpArgs false
set_option maxRecDepth 100000
set_option maxHeartbeats 4000000
namespace Go.Proofs.YtkejippimkjjaaaGreatDoor
open Go.RowKit Go.Shelf Go.Maps
open Fm (Nd)
open Bt.Bs (Ok wd)
theorem GL {ops:Array Oper} {rest:List Oper} {o:Oper} {a:Act} {Q:Exit->Act->World->Prop} {w:World} (v:Value) (w':World) (hg:o.guard=none) (hrun:(execOp a.eval o).run Tryz.prog w=.ok (.value v) w') (hK:wpList Tryz.prog ops Q rest (a.put o.dst v) w'):wpList Tryz.prog ops Q (o :: rest) a w:=by
 refine wpList_plain hg fun K' hK' => ?_
 unfold Oper.wp
 rw[hrun,Oper.upon_value]
 exact hK' _ _ hK
theorem BM (w0:World) (mm:Sh):Calls Tryz.prog 70 #[fC mm] w0 fun e w'=>e=.returned (.slice none 0 0)/\Below w0.heap.size w0 w':=by
 unfold fC
 go_enter Tryz.func70,Tryz.ntmps70
 go_wp2_with (refine aI 123 _ rfl _ rfl rfl ?_)
 intro w1 b2 hn1
 go_wp2_with fail
 go_ret
 exact⟨rfl,hn1.au⟩
theorem Ma (w0:World) {b m:Nat} {v:Value} {t:List Nd} (hT:Tb w0 b m v t) {k wb:Nat} {r:List Nat} {g:Int} {tv:Value} (hW:Wk w0 k b r g tv false) (hr:Ok r) (hwb:Cl w0 wb #[.pointer (some ⟨k,0,none⟩)] 84) (mm:Sh) {aG:List Nat} (eH:aG=Bt.aQ r mm.id) :
 Calls Tryz.prog 80 #[fC mm,.pointer (some ⟨wb,0,none⟩)] w0 fun e w'=>∃ sv,e=.returned sv/\bW sv [(aG,g)] w'/\PE w0 w' b m v k r g tv t false:=by
 have hrs:Ok aG:=by rw[eH];exact cZ hr mm.id
 have KR:=show Hid (∀ W:World,Below w0.heap.size w0 W->Calls Tryz.prog 77 #[.pointer (some ⟨k,0,none⟩),.agg (bL mm)] W fun e w'=>e=.returned (.agg (ak aG g))/\Below W.heap.size W w') from fun W h=>by rw[eH];exact jy W (hW.later h) hr mm
 have HT:=show Hid (Tb w0 b m v t/\Wk w0 k b r g tv false) from⟨hT,hW⟩
 have HW:=show Hid (∀ W:World,Below w0.heap.size w0 W->W.cell? ⟨wb,0,none⟩=some (.pointer (some ⟨k,0,none⟩))) from fun W h=>(hwb.later h).cell 0
 clear hT hW hwb eH
 unfold fC
 go_enter Tryz.func80,Tryz.ntmps80
 go_wp2_with (refine aI 123 _ rfl _ rfl rfl ?_)
 intro w1 b2 hn1
 have c1:=HW.out w1 hn1.au
 have H1:=show Hid (Below w0.heap.size w0 w1/\Cl w1 b2 (bL mm) 123) from⟨hn1.au,hn1.blk⟩
 clear hn1 HW
 go_wp2_with (refine gK 123 _ rfl b2 rfl _ _ H1.out.2 rfl Tryz.underlying123 jQ rfl ?_)
 refine Calls.mono (KR.out w1 H1.out.1) ?_
 rintro e w2 ⟨rfl,hb2⟩
 have hq:=wC w2 hrs.1 g
 have H2:=show Hid (Below w0.heap.size w0 w2) from H1.out.1.trans (hb2.mono H1.out.1.size)
 clear hb2 H1 KR c1
 go_wp2_with (refine GL (.slice (some ⟨w2.heap.size,0,none⟩) 1 1) (w2.alloc (.cells (bH [(aG,g)]) 27)) rfl (by simp[execOp,Act.eval,hq,Result.andThen]) ?_)
 go_ret
 have hn:=aZ w2 (bH [(aG,g)]) 27
 have hb3:=aS H2.out hn
 exact⟨_,rfl,⟨w2.heap.size,rfl,hn.blk⟩,⟨v,HT.out.1.later hb3,bQ.refl _ _⟩,HT.out.2.later hb3,Kp.of_below hb3⟩
def jC (i:Nat) (t:List Nd) (r:List Nat) (g:Int) (m:Sh):List SQ × List Nd × Bool:=match i with
 | 2=>([(aA (Bt.aQ r m.id) [m.a,m.b],g)],t,false)
 | 3=>([(aA (Bt.aQ r m.id) [m.b],g)],t,false)
 | 4=>([(Bt.aQ r m.id,g)],t,false)
 | 5=>([(aA (Bt.aQ r m.id) [(Fm.put (Fm.put t (ay 5 m.d m.b)).2.2 (ay 5 m.c (Fm.put t (ay 5 m.d m.b)).1)).1],g)],(Fm.put (Fm.put t (ay 5 m.d m.b)).2.2 (ay 5 m.c (Fm.put t (ay 5 m.d m.b)).1)).2.2,((false || ((Fm.put t (ay 5 m.d m.b)).2.1 != 0)) || ((Fm.put (Fm.put t (ay 5 m.d m.b)).2.2 (ay 5 m.c (Fm.put t (ay 5 m.d m.b)).1)).2.1 != 0)))
 | 6=>([(aA (Bt.aQ r m.id) [(Fm.put t (ay 5 m.c m.b)).1,(Fm.put (Fm.put t (ay 5 m.c m.b)).2.2 (ay 5 m.d m.b)).1],g)],(Fm.put (Fm.put t (ay 5 m.c m.b)).2.2 (ay 5 m.d m.b)).2.2,((false || ((Fm.put t (ay 5 m.c m.b)).2.1 != 0)) || ((Fm.put (Fm.put t (ay 5 m.c m.b)).2.2 (ay 5 m.d m.b)).2.1 != 0)))
 | 7=>([(aA r [m.a],m.b)],t,false)
 | 8=>([(r,m.a),(r,m.b)],t,false)
 | 9=>([(aA (Bt.aQ r m.id) [m.a],g),(aA (Bt.aQ r m.id) [m.b],g)],t,false)
 | 10=>([(r,m.a)],t,false)
 | 11=>([(r,m.b)],t,false)
 | 12=>([(aA (Bt.aQ r m.id) [(Fm.put t (ay 5 m.d m.b)).1],m.a),(aA (Bt.aQ r m.id) [m.b],g)],(Fm.put t (ay 5 m.d m.b)).2.2,(false || ((Fm.put t (ay 5 m.d m.b)).2.1 != 0)))
 | _=>([],t,false)
def eu (sv:Value) (l:List SQ) (w:World):Prop:=(l=[]/\sv=.slice none 0 0)\/bW sv l w
theorem BN {w0 w:World} {b m k:Nat} {v tv:Value} {r:List Nat} {g:Int} {t:List Nd} (hT:Tb w0 b m v t) (hW:Wk w0 k b r g tv false) (hb:Below w0.heap.size w0 w):PE w0 w b m v k r g tv t false:=⟨⟨v,hT.later hb,bQ.refl _ _⟩,hW.later hb,Kp.of_below hb⟩
theorem Pb (w0:World) {b m:Nat} {v:Value} {t:List Nd} (hT:Tb w0 b m v t) {k wb:Nat} {r:List Nat} {g:Int} {tv:Value} (hW:Wk w0 k b r g tv false) (hr:Ok r) (hwb:Cl w0 wb #[.pointer (some ⟨k,0,none⟩)] 84) (mm:Sh) (hgb:Fm.i64 mm.b) (hgc:Fm.i64 mm.c) (hgd:Fm.i64 mm.d) :
 ∀ i,i<13->∃ (gf:Nat) (cs:List Value),jJ wb i=.func (.func gf) #[] cs.toArray/\(∀ vs w,(callFunc gf vs).run Tryz.prog w=.ok (.enter gf vs) w)/\Calls Tryz.prog gf ([fC mm] ++ cs).toArray w0 fun e w'=>∃ sv,e=.returned sv/\eu sv (jC i t r g mm).1 w'/\PE w0 w' b m v k r g tv (jC i t r g mm).2.1 (jC i t r g mm).2.2:=by
 refine bR 13 ⟨⟨⟨⟨⟨⟨⟨⟨⟨⟨⟨⟨⟨trivial,?c0⟩,?c1⟩,?c2⟩,?c3⟩,?c4⟩,?c5⟩,?c6⟩,?c7⟩,?c8⟩,?c9⟩,?c10⟩,?c11⟩,?c12⟩
 case c0=>exact⟨_,[],rfl,enters_of Tryz.func70 (by kernel_rfl) rfl,(BM w0 mm).mono fun e w' h=>⟨_,h.1,Or.inl ⟨rfl,rfl⟩,BN hT hW h.2⟩⟩
 case c1=>exact⟨_,[],rfl,enters_of Tryz.func70 (by kernel_rfl) rfl,(BM w0 mm).mono fun e w' h=>⟨_,h.1,Or.inl ⟨rfl,rfl⟩,BN hT hW h.2⟩⟩
 case c2=>exact⟨_,[.pointer (some ⟨wb,0,none⟩)],rfl,enters_of Tryz.func75 (by kernel_rfl) rfl,(LY w0 hT hW hr hwb mm rfl).mono fun e w' ⟨sv,h1,h2,h3⟩=>⟨sv,h1,Or.inr h2,h3⟩⟩
 case c3=>exact⟨_,[.pointer (some ⟨wb,0,none⟩)],rfl,enters_of Tryz.func79 (by kernel_rfl) rfl,(LZ w0 hT hW hr hwb mm rfl).mono fun e w' ⟨sv,h1,h2,h3⟩=>⟨sv,h1,Or.inr h2,h3⟩⟩
 case c4=>exact⟨_,[.pointer (some ⟨wb,0,none⟩)],rfl,enters_of Tryz.func80 (by kernel_rfl) rfl,(Ma w0 hT hW hr hwb mm rfl).mono fun e w' ⟨sv,h1,h2,h3⟩=>⟨sv,h1,Or.inr h2,h3⟩⟩
 case c5=>exact⟨_,[.pointer (some ⟨wb,0,none⟩)],rfl,enters_of Tryz.func81 (by kernel_rfl) rfl,(L8 w0 hT hW hr hwb mm hgb hgc hgd rfl rfl rfl).mono fun e w' ⟨sv,h1,h2,h3⟩=>⟨sv,h1,Or.inr h2,h3⟩⟩
 case c6=>exact⟨_,[.pointer (some ⟨wb,0,none⟩)],rfl,enters_of Tryz.func83 (by kernel_rfl) rfl,(L9 w0 hT hW hr hwb mm hgb hgc hgd rfl rfl rfl).mono fun e w' ⟨sv,h1,h2,h3⟩=>⟨sv,h1,Or.inr h2,h3⟩⟩
 case c7=>exact⟨_,[.pointer (some ⟨wb,0,none⟩)],rfl,enters_of Tryz.func85 (by kernel_rfl) rfl,(L6 w0 hT hW hr hwb mm rfl).mono fun e w' ⟨sv,h1,h2,h3⟩=>⟨sv,h1,Or.inr h2,h3⟩⟩
 case c8=>exact⟨_,[.pointer (some ⟨wb,0,none⟩)],rfl,enters_of Tryz.func87 (by kernel_rfl) rfl,(Jz w0 hT hW hr hwb mm rfl).mono fun e w' ⟨sv,h1,h2,h3⟩=>⟨sv,h1,Or.inr h2,h3⟩⟩
 case c9=>exact⟨_,[.pointer (some ⟨wb,0,none⟩)],rfl,enters_of Tryz.func88 (by kernel_rfl) rfl,(JA w0 hT hW hr hwb mm rfl).mono fun e w' ⟨sv,h1,h2,h3⟩=>⟨sv,h1,Or.inr h2,h3⟩⟩
 case c10=>exact⟨_,[.pointer (some ⟨wb,0,none⟩)],rfl,enters_of Tryz.func89 (by kernel_rfl) rfl,(JB w0 hT hW hr hwb mm rfl).mono fun e w' ⟨sv,h1,h2,h3⟩=>⟨sv,h1,Or.inr h2,h3⟩⟩
 case c11=>exact⟨_,[.pointer (some ⟨wb,0,none⟩)],rfl,enters_of Tryz.func90 (by kernel_rfl) rfl,(JC w0 hT hW hr hwb mm rfl).mono fun e w' ⟨sv,h1,h2,h3⟩=>⟨sv,h1,Or.inr h2,h3⟩⟩
 case c12=>exact⟨_,[.pointer (some ⟨wb,0,none⟩)],rfl,enters_of Tryz.func91 (by kernel_rfl) rfl,(JD w0 hT hW hr hwb mm hgb hgc hgd rfl rfl).mono fun e w' ⟨sv,h1,h2,h3⟩=>⟨sv,h1,Or.inr h2,h3⟩⟩
theorem Pd {t:List Nd} (hO:Fm.Ok t) (i:Int):Fm.i64 (dx t i).b/\Fm.i64 (dx t i).c/\Fm.i64 (dx t i).d:=by
 have hz:Fm.i64 0:=Fm.eU (by omega) (by omega)
 have hn:∀ j,Fm.i64 (aB t j).l/\Fm.i64 (aB t j).r:=fun j=>by
  unfold aB
  split
  ·rename_i h
   have hh:=Fm.bJ.1 h
   have hj:j.toNat<t.length:=by omega
   have e:t.getD j.toNat Fm.z=t[j.toNat]:=by simp[List.getD,hj]
   rw[e]
   have:=hO.gd _ (List.getElem_mem hj)
   exact⟨this.2.2.1,this.2.2.2⟩
  ·exact⟨hz,hz⟩
 refine⟨(hn i).2,?_,?_⟩
 ·show Fm.i64 (if (aB t i).k=5 then (aB t (aB t i).l).l else 0)
  split
  ·exact(hn _).1
  ·exact hz
 ·show Fm.i64 (if (aB t i).k=5 then (aB t (aB t i).l).r else 0)
  split
  ·exact(hn _).2
  ·exact hz
theorem Pe {i:Nat} {t:List Nd} {r:List Nat} {g:Int} {m:Sh}:∃ u,(jC i t r g m).2.1=t ++ u:=by
 have p1:∀ (t:List Nd) (n:Nd),∃ u,(Fm.put t n).2.2=t ++ u:=fun t n=>(Fm.vM t n).2
 have p2:∀ (t:List Nd) (n n2:Nd),∃ u,(Fm.put (Fm.put t n).2.2 n2).2.2=t ++ u:=fun t n n2=>by
  obtain⟨u,hu⟩:=p1 t n
  obtain⟨u2,hu2⟩:=p1 (Fm.put t n).2.2 n2
  exact⟨u ++ u2,by rw[hu2,hu,List.append_assoc]⟩
 unfold jC
 split
 case h_4=>exact p2 t _ _
 case h_5=>exact p2 t _ _
 case h_11=>exact p1 t _
 all_goals exact⟨[],by simp⟩
def aH (t:List Nd) (r:List Nat) (g:Int) (ru main:Int):List SQ × List Nd × Int :=
 if d9 t r g≠0 then ([],t,d9 t r g) else if findF t r g ru main=false then ([],t,90)
 else if (jC (ru - 1).toNat t r g (dx t main)).2.2=true then ([],t,30) else ((jC (ru - 1).toNat t r g (dx t main)).1,(jC (ru - 1).toNat t r g (dx t main)).2.1,0)
theorem uN {t:List Nd} {r:List Nat} {g ru main:Int} (h:findF t r g ru main=true):(ru - 1).toNat<13:=by
 unfold findF at h
 simp at h
 have:=h.1.2
 omega
theorem ED {t u:List Nd}:ou (t ++ u) (t.length:Int)=(0,t):=by
 unfold ou
 rw[if_pos ⟨by omega,by simp;omega⟩]
 simp
theorem BO {w0 w1 W:World} {b m k:Nat} {v tv:Value} {r:List Nat} {g:Int} {t':List Nd} {fl:Bool} (h1:Below w0.heap.size w0 w1) (hk:w0.heap.size<=k) (h:PE w1 W b m v k r g tv t' fl):∃ v',Tb W b m v' t'/\bQ w0.heap.size v v'/\Kp (Ft b m v) w0 W:=by
 obtain⟨v',h2,h3⟩:=h.tb
 refine⟨v',h2,fun i hi => ?_,(Kp.of_below (S:=Ft b m v) h1).trans h.kp fun i hi => ?_⟩
 ·rcases h3 i hi with e | e
  ·exact Or.inl e
  ·exact Or.inr (Nat.le_trans h1.size e)
 ·rcases hi with e | e
  ·exact Or.inl e
  ·exact Or.inr (by omega)
theorem Pf {w:World} {k b T wb:Nat} {r:List Nat} {g:Int} {L:List T3} (h:Made w k b T wb r g L) {i:Nat} (hi:i<13):∃ n fv,(c3 (L.getD i t30)).toArray=#[.int .i64 n,fv,jJ wb i]:=by
 have hl:i<L.length:=by rw[h.len];exact hi
 have e:L.getD i t30=L[i]:=by simp[List.getD,hl]
 exact⟨_,_,by rw[e,<- h.Rj i hl];rfl⟩
theorem BP (w0:World) {b m:Nat} {v:Value} {t:List Nd} (hT:Tb w0 b m v t) (hZ:Bt.Tz w0) {r:List Nat} (hr:Ok r) (g ru main:Int) :
 Calls Tryz.prog 51 #[.pointer (some ⟨b,0,none⟩),.agg (ak r g),.int .i64 ru,.int .i64 main] w0 fun e w'=>∃ sv,e=.returned (.tuple #[sv,.int .i64 (aH t r g ru main).2.2])/\eu sv (aH t r g ru main).1 w'/\After w0 b m v (aH t r g ru main).2.1 w':=by
 have hl:=hr.1
 have HT:=show Hid (∀ W:World,Below w0.heap.size w0 W->Tb W b m v t/\Bt.Tz W) from fun W h=>⟨hT.later h,Bt.gB hZ h⟩
 have HA:=show Hid (∀ W:World,Below w0.heap.size w0 W->After w0 b m v t W) from fun W h=>After.of_below hT h
 have HI:=show Hid (Fm.i64 (dx t main).b/\Fm.i64 (dx t main).c/\Fm.i64 (dx t main).d) from Pd hT.ok main
 clear hT hZ
 obtain⟨rq,hrq⟩:∃ q,q=d9 t r g:=⟨_,rfl⟩
 have zK:=show Hid (d9 t r g=rq) from hrq.symm
 obtain⟨ff,RD⟩:∃ q,q=findF t r g ru main:=⟨_,rfl⟩
 have NT:=show Hid (findF t r g ru main=ff) from RD.symm
 obtain⟨P,hP⟩:∃ q,q=aH t r g ru main:=⟨_,rfl⟩
 have HP:=show Hid (P=if rq≠0 then ([],t,rq) else if ff=false then ([],t,90) else if (jC (ru - 1).toNat t r g (dx t main)).2.2=true then ([],t,30) else ((jC (ru - 1).toNat t r g (dx t main)).1,(jC (ru - 1).toNat t r g (dx t main)).2.1,0)) from by rw[hP,hrq,RD];rfl
 rw[<- hP]
 clear hrq RD hP
 go_enter Tryz.func51,Tryz.ntmps51
 go_wp2_with (refine aI 27 _ rfl _ rfl rfl ?_)
 intro w1 b5 hn1
 have H1:=show Hid (dz w0 w1 b5 r g) from⟨hn1.blk,hn1.au,hn1.ge⟩
 clear hn1
 have KR:=show Hid _ from wD w1 (HT.out w1 H1.out.au).1 (HT.out w1 H1.out.au).2 hr g
 rw[zK.out] at KR
 go_wp2_with (refine aJ _ _ rfl b5 rfl H1.out.s hl rfl ?_)
 refine Calls.mono KR.out ?_
 rintro e w2 ⟨rfl,hb2⟩
 have H2:=show Hid _ from H1.out.later hb2
 clear H1 hb2 KR zK
 by_cases hz:rq=0
 ·subst hz
  have KW:=show Hid _ from rO w2 b hr g
  go_wp2_with (refine aJ _ _ rfl b5 rfl H2.out.s hl rfl ?_)
  refine Calls.mono KW.out ?_
  rintro e w3 ⟨k,T,wb,L,rfl,RG,hk3,hb3⟩
  have H3:=show Hid _ from H2.out.later hb3
  have KF:=show Hid _ from LV w3 (HT.out w3 H3.out.au).1 RG hr ru main
  have HM:=show Hid (Made w3 k b T wb r g L/\w0.heap.size<=k) from⟨RG,Nat.le_trans H2.out.au.size hk3⟩
  rw[NT.out] at KF
  clear RG hk3 KW H2 hb3
  cases ff
  ·obtain rfl:P=([],t,90):=by rw[HP.out];rfl
   clear HP NT
   go_wp2_with fail
   refine Calls.mono KF.out ?_
   rintro e w4 ⟨rfl,hb4⟩
   have H4:=show Hid _ from H3.out.later hb4
   clear H3 hb4 KF HM
   unfold fC
   rw[if_neg Bool.false_ne_true,if_neg Bool.false_ne_true]
   go_wp2_with (refine aF 127 rfl zT rX rfl ?_)
   intro w5 b11 bB
   go_wp2_with (refine aF 123 rfl _ sU rfl ?_)
   intro w6 b12 fQ
   go_wp2_with (refine aK 127 rfl rfl _ _ rfl b11 rfl zT rfl _ _ (Cl.new bB.blk fQ) sizeT rfl yc ?_)
   intro w7 jR fF
   go_wp2_with (refine aK 123 rfl rfl _ _ rfl b12 rfl (bL kS) rfl _ _ (Cl.kp fQ.blk fF (by have:=Cl.lt bB.blk;have:=fQ.ge;omega)) jQ rfl (kZ kS) ?_)
   intro w8 hc8 bD
   go_wp2_with fail
   go_ret2
   have e5:=H4.out.au.size;have e6:=bB.ge;have e7:=fQ.ge;have e8:=bB.au.size
   exact⟨_,rfl,Or.inl ⟨rfl,rfl⟩,HA.out _ (aP (aP (aS (aS H4.out.au bB) fQ) fF (by omega)) bD (by omega))⟩
  ·have BQ:=uN NT.out
   obtain⟨n3,RH,e3⟩:=Pf HM.out.1 BQ
   obtain⟨i,hi⟩:∃ i,i=(ru - 1).toNat:=⟨_,rfl⟩
   rw[<- hi] at BQ e3 HP
   rw[<- hi] at KF
   have U2:=show Hid (Calls Tryz.prog 99 #[.pointer (some ⟨k,0,none⟩),.int .i64 ru,.int .i64 main] w3 fun e w'=>e=.returned (.tuple #[.agg #[.int .i64 n3,RH,jJ wb i],fC (dx t main),.bool true])/\Below w3.heap.size w3 w') from by
    have:=KF.out
    rw[if_pos rfl,if_pos rfl,e3] at this
    exact this
   have U3:=show Hid ((#[.int .i64 n3,RH,jJ wb i]:Array Value).all (·.oneCell')=true) from by rw[<- e3];exact xX _
   have U4:=show Hid (∀ W:World,Below w3.heap.size w3 W->∃ (gf:Nat) (cs:List Value),jJ wb i=.func (.func gf) #[] cs.toArray/\(∀ (vs:Array Value) (w:World),(callFunc gf vs).run Tryz.prog w=.ok (.enter gf vs) w)/\Calls Tryz.prog gf ([Value.agg (bL (dx t main))] ++ cs).toArray W fun e w'=>∃ sv,e=.returned sv/\eu sv (jC i t r g (dx t main)).1 w'/\PE W w' b m v k r g (.slice (some ⟨T,0,none⟩) 13 13) (jC i t r g (dx t main)).2.1 (jC i t r g (dx t main)).2.2) from fun W h=>Pb W (HT.out W (H3.out.au.trans (h.mono H3.out.au.size))).1 (HM.out.1.wk.later h) hr (HM.out.1.gY.later h) (dx t main) HI.out.1 HI.out.2.1 HI.out.2.2 i BQ
   have U5:=show Hid (∃ u,(jC i t r g (dx t main)).2.1=t ++ u) from Pe
   clear KF NT hi e3 HI
   generalize dx t main=mm at *
   generalize jC i t r g mm=X at *
   generalize jJ wb i=pv at *
   go_wp2_with fail
   refine Calls.mono U2.out ?_
   rintro e w4 ⟨rfl,hb4⟩
   have H4:=show Hid _ from H3.out.later hb4
   have Jd:=show Hid (Below w3.heap.size w3 w4) from hb4
   clear H3 hb4 U2
   unfold fC
   go_wp2_with (refine aF 127 rfl zT rX rfl ?_)
   intro w5 b11 bB
   go_wp2_with (refine aF 123 rfl _ sU rfl ?_)
   intro w6 b12 fQ
   go_wp2_with (refine aK 127 rfl rfl _ _ rfl b11 rfl _ rfl _ _ (Cl.new bB.blk fQ) sizeT rfl U3.out ?_)
   intro w7 jR fF
   go_wp2_with (refine aK 123 rfl rfl _ _ rfl b12 rfl (bL mm) rfl _ _ (Cl.kp fQ.blk fF (by have:=Cl.lt bB.blk;have:=fQ.ge;omega)) jQ rfl (kZ mm) ?_)
   intro w8 hc8 bD
   have e5:=H4.out.au.size;have e6:=bB.ge;have e7:=fQ.ge;have e8:=bB.au.size
   have e9:=Jd.out.size;have e10:=Cl.lt bB.blk
   have H8:=show Hid (Below w0.heap.size w0 w8/\Below w3.heap.size w3 w8/\Cl w8 b11 #[.int .i64 n3,RH,pv] 127/\Cl w8 b12 (bL mm) 123) from⟨aP (aP (aS (aS H4.out.au bB) fQ) fF (by omega)) bD (by omega),aP (aP (aS (aS Jd.out bB) fQ) fF (by omega)) bD (by omega),Cl.kp jR bD (by omega),hc8⟩
   have U6:=show Hid _ from rU w8 (HT.out w8 H8.out.1).1
   clear H4 Jd bB fQ jR fF hc8 bD U3 e5 e6 e7 e8 e9 e10
   go_wp2_with fail
   refine Calls.mono U6.out ?_
   rintro e w9 ⟨rfl,U7⟩
   subst w9
   clear U6
   have ZM:w8.cell? ⟨b11,2,none⟩=some pv:=H8.out.2.2.1.cell 2
   obtain⟨gf,cs,rfl,hcf,KP⟩:=U4.out w8 H8.out.2.1
   have U8:=show Hid _ from KP
   clear KP U4
   go_wp2_with (first|(refine gK 123 _ rfl b12 rfl _ _ H8.out.2.2.2 rfl Tryz.underlying123 jQ rfl ?_)|(refine uK rfl gf _ [.tmp 40] _ rfl [Value.agg (bL mm)] cs rfl rfl hcf ?_))
   refine Calls.mono U8.out ?_
   rintro e eY ⟨sv,rfl,hS,hE⟩
   have HE:=show Hid _ from hE
   have HS:=show Hid _ from hS
   have c19:=hE.wk.Q5 hl
   clear hS hE U8
   refine⟨_,rfl,?_⟩
   obtain⟨l,t',fl⟩:=X
   simp only at HE HS HP U5 c19
   cases fl
   ·obtain rfl:P=(l,t',0):=by rw[HP.out];rfl
    clear HP
    go_wp2_with fail
    go_ret2
    exact⟨_,rfl,HS.out,BO H8.out.1 HM.out.2 HE.out⟩
   ·obtain rfl:P=([],t,30):=by rw[HP.out];rfl
    clear HP
    obtain⟨u,rfl⟩:=U5.out
    obtain⟨v',hT',hL',hK'⟩:=BO H8.out.1 HM.out.2 HE.out
    have KC:=show Hid _ from Es eY hT' (t.length:Int)
    rw[ED] at KC
    have HL:=show Hid _ from And.intro hL' hK'
    clear hT' hL' hK' HE HS
    go_wp2_with fail
    refine Calls.mono KC.out ?_
    rintro e jI ⟨rfl,hA⟩
    have HX:=show Hid _ from After.trans HL.out.1 HL.out.2 hA
    clear hA KC HL
    go_wp2_with fail
    go_ret2
    exact⟨_,rfl,Or.inl ⟨rfl,rfl⟩,HX.out⟩
 ·have hzb:(rq != 0)=true:=by simpa using hz
  obtain rfl:P=([],t,rq):=by rw[HP.out,if_pos hz]
  clear hz HP
  go_wp2_with fail
  go_ret2
  exact⟨_,rfl,Or.inl ⟨rfl,rfl⟩,HA.out _ H2.out.au⟩
end Go.Proofs.YtkejippimkjjaaaGreatDoor

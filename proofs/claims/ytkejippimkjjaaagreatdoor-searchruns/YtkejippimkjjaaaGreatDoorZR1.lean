import Derived.Test.YtkejippimkjjaaaGreatDoorRG1
import Derived.Test.YtkejippimkjjaaaGreatDoorFG3
import Derived.Test.YtkejippimkjjaaaGreatDoorZT1
import Derived.Test.YtkejippimkjjaaaGreatDoorBG6
set_option linter.unusedSimpArgs false
set_option maxRecDepth 100000
set_option maxHeartbeats 1000000
namespace Go.Proofs.YtkejippimkjjaaaGreatDoor
open Go.RowKit Go.Maps
open Fm (Nd)
section
variable (w:World) {c:Nat} {u:Value} {t:List Nd}
theorem M4 (h:Tr w c u t) (k x y:Int) (h0:0<=k) (h1:k<=1024) (hx:Fm.i64 x) (hy:Fm.i64 y) :
 Calls Tryz.prog 102 #[.pointer (some ⟨c,0,none⟩),.int .i64 k,.int .i64 x,.int .i64 y] w fun e w'=>e=.returned (.tuple #[.int .i64 (Fm.put t (ay k x y)).1,.int .i64 (Fm.put t (ay k x y)).2.1])/\aO w c u (Fm.put t (ay k x y)).2.2 w':=by
 have K:=show Hid (Calls Tryz.prog 23 #[.pointer (some ⟨c,0,none⟩),.agg #[.int .i64 k,.string ⟨#[]⟩,.int .i64 x,.int .i64 y]] w fun e w'=>e=.returned (.tuple #[.int .i64 (Fm.put t (ay k x y)).1,.int .i64 (Fm.put t (ay k x y)).2.1])/\aO w c u (Fm.put t (ay k x y)).2.2 w') from Bp w h (ay k x y) (iB h0 h1 hx hy)
 generalize Fm.put t (ay k x y)=r at *
 clear h
 go_enter Tryz.func102,Tryz.ntmps102
 go_wp2_with fail
 refine K.out.mono ?_
 rintro e w1 ⟨rfl,ha⟩
 have HA:=show Hid _ from ha
 clear ha K
 go_wp2_with fail
 go_ret2
 exact⟨rfl,HA.out⟩
theorem xE (h:Tr w c u t) (x y:Int) (hx:Fm.i64 x) (hy:Fm.i64 y) :
 Calls Tryz.prog 61 #[.pointer (some ⟨c,0,none⟩),.int .i64 x,.int .i64 y] w fun e w'=>e=.returned (.tuple #[.int .i64 (Fm.put t (ay 5 x y)).1,.int .i64 (Fm.put t (ay 5 x y)).2.1])/\aO w c u (Fm.put t (ay 5 x y)).2.2 w':=by
 have K:=show Hid (Calls Tryz.prog 102 #[.pointer (some ⟨c,0,none⟩),.int .i64 5,.int .i64 x,.int .i64 y] w fun e w'=>e=.returned (.tuple #[.int .i64 (Fm.put t (ay 5 x y)).1,.int .i64 (Fm.put t (ay 5 x y)).2.1])/\aO w c u (Fm.put t (ay 5 x y)).2.2 w') from M4 w h 5 x y (by omega) (by omega) hx hy
 generalize Fm.put t (ay 5 x y)=r at *
 clear h
 go_enter Tryz.func61,Tryz.ntmps61
 go_wp2_with fail
 refine K.out.mono ?_
 rintro e w1 ⟨rfl,ha⟩
 have HA:=show Hid _ from ha
 clear ha K
 go_wp2_with fail
 go_ret2
 exact⟨rfl,HA.out⟩
theorem Hr {j:Nat} (h:Tr w c u t) (hj:j<=t.length):(∀ p cp,u=.slice p t.length cp->∀ u',(u'=.slice p j j)->aO w c u (t.take j) (w.setCell ⟨c,0,none⟩ u')):=by
 rintro p cp rfl u' rfl
 refine⟨.slice p j j,⟨heap_setCell_same _ c 0 _ _ _ h.tab,?_,Fm.Ef h.ok j⟩,fun k hk=>Or.inl (by cases p <;> exact hk),⟨rfl,rfl,rfl,by simp[World.setCell],fun k hk hn=>Below.heap_setCell _ _ _ _ (fun e=>hn (Or.inl e))⟩⟩
 have hlj:(t.take j).length=j:=by rw[List.length_take];omega
 rcases h.row with ⟨hv,ht⟩ | ⟨g,cap,cur,hv,hg,hnc,hcm,hcs,htake⟩
 ·obtain⟨rfl,_,_⟩:=Value.slice.inj hv
  subst ht
  have:j=0:=by simpa using hj
  subst this
  exact Or.inl ⟨rfl,rfl⟩
 ·obtain⟨rfl,_,_⟩:=Value.slice.inj hv
  have hcg:g≠c:=fun e=>h.uc (by rw[<- e];rfl)
  refine Or.inr ⟨g,j,cur,by rw[hlj],(Below.heap_setCell _ _ _ _ hcg).trans hg,by rw[hlj];exact Nat.le_refl _,by unfold maxLen at *;omega,by omega,?_⟩
  rw[hlj,<- um t j hj,<- htake,List.take_take,Nat.min_eq_left (by omega)]
theorem Dg (h:Tr w c u t) (n:Int) :
 Calls Tryz.prog 19 #[.pointer (some ⟨c,0,none⟩),.int .i64 n] w fun e w'=>e=.returned (.int .i64 (ou t n).1)/\aO w c u (ou t n).2 w':=by
 have c0:=h.c0
 have hf:=h.fr
 have HT:=show Hid (Tr w c u t) from h
 have hlen:=h.ok.len
 have Ke:=show Hid (ou t n=if 0<=n/\n<=t.length then (0,t.take n.toNat) else (2,t)) from rfl
 generalize ou t n=r at *
 by_cases hn:0<=n/\n<=t.length
 ·obtain⟨j,rfl⟩:∃ j:Nat,n=j:=⟨n.toNat,by omega⟩
  have hj:j<=t.length:=by omega
  have hr:=Ke.out
  rw[if_pos hn] at hr
  simp only[Int.toNat_natCast] at hr
  subst hr
  have HW:=show Hid (∀ p cp,u=.slice p t.length cp->∀ u',(u'=.slice p j j)->aO w c u (t.take j) (w.setCell ⟨c,0,none⟩ u')) from Hr w h hj
  have hj0:¬ (j:Int)<0:=by omega
  have hj1:¬ (t.length:Int)<(j:Int):=by omega
  have hjl:(j:Int)<=(t.length:Int):=by omega
  rcases rM h.row with ⟨rfl,rfl⟩ | ⟨g,cap,cur,rfl,-,hnc,hcm,-,-⟩
  ·obtain rfl:j=0:=by simpa using hj
   have HW2:=show Hid _ from HW.out none 0 rfl (.slice none 0 0) rfl
   clear h hn Ke HW
   go_enter Tryz.func19,Tryz.ntmps19
   go_wp2_with fail
   go_ret
   exact⟨rfl,HW2.out⟩
  ·unfold maxLen at hcm
   have hjc:(j:Int)<=(cap:Int):=by omega
   have ZB:j<=cap:=by omega
   have HW2:=show Hid _ from HW.out _ cap rfl (.slice (some ⟨g,0,none⟩) j j) rfl
   clear h hn Ke HW
   go_enter Tryz.func19,Tryz.ntmps19
   go_wp2_with fail
   go_ret
   exact⟨rfl,HW2.out⟩
 ·have hr:=Ke.out
  rw[if_neg hn] at hr
  subst hr
  obtain⟨p,cp,rfl⟩:=h.row.form
  clear h Ke
  by_cases hn0:n<0
  ·go_enter Tryz.func19,Tryz.ntmps19
   go_wp2_with fail
   go_ret
   exact⟨rfl,aO.of_below HT.out (Below.refl _ _)⟩
  ·have hn1:(t.length:Int)<n:=by omega
   go_enter Tryz.func19,Tryz.ntmps19
   go_wp2_with fail
   go_ret
   exact⟨rfl,aO.of_below HT.out (Below.refl _ _)⟩
end
end Go.Proofs.YtkejippimkjjaaaGreatDoor
namespace Go.Proofs.YtkejippimkjjaaaGreatDoor
open Go.RowKit Go.Shelf Go.Maps
open Fm (Nd)
open Bt.Bs (Ok wd)
theorem bN {ops:Array Oper} {rest:List Oper} {o:Oper} {a:Act} {Q:Exit->Act->World->Prop} (w:World) (hg:Region.wanted o (yielded ops a.tmps)=true) (x:Operand) (hop:o.op=Op.load 25 x) (b k:Nat) (hx:a.eval x=.pointer (some ⟨b,k,none⟩)) {r:List Nat} {g:Int} (h:iY w b k r g) (hs:r.length=16)
 (hK:wpList Tryz.prog ops Q rest (a.put o.dst (.agg (Bt.aD r))) w):wpList Tryz.prog ops Q (o :: rest) a w:=by
 refine Bt.wpList_want hg fun K' hK' => ?_
 have hrun:=En w b k h hs
 unfold Oper.wp
 simp[execOp,hop,hx,hrun,Result.andThen]
 exact hK' _ _ hK
theorem fV (w:World) {c:Nat} {u:Value} {t:List Nd} (h:Tr w c u t) (i:Nat) (hi:i<t.length) :
 Calls Tryz.prog 100 #[.pointer (some ⟨c,0,none⟩),.int .i64 (i:Int)] w fun e w'=>e=.returned (.int .i64 (t[i].k))/\w'=w:=by
 have c0:=h.c0
 have hlen:=h.ok.len
 obtain⟨p,cp,rfl,hc1,hc2,hat⟩:=h.row.gT.at
 obtain⟨b,o,rfl,bF⟩:=hat (by omega)
 have a0:=(bF w (Below.refl _ _) i hi).c0
 have gL:(i:Int)<(t.length:Int):=by omega
 clear h hat bF
 generalize t[i].k=x at *
 go_enter Tryz.func100,Tryz.ntmps100
 go_wp2_with fail
 go_ret
 exact⟨rfl,rfl⟩
theorem qA (w:World) {r:List Nat} (hr:r.length=16) (g x:Int):Calls Tryz.prog 60 #[.agg (ak r g),.int .i64 x] w fun e w'=>e=.returned (.agg (ak r x))/\Below w.heap.size w w':=by
 go_enter Tryz.func60,Tryz.ntmps60
 go_wp2_with (refine aI _ _ rfl _ rfl rfl ?_)
 intro w1 b1 hn1
 go_wp2_with (refine aF _ rfl _ fO rfl ?_)
 intro w2 b2 hn2
 obtain⟨rfl,rfl,hq⟩:=vO hn1 hn2
 clear hn1 hn2
 have h16:=hq.s.goal hr
 have f16:=hq.s.fr 16
 have HQ:=show Hid _ from hq.put (hq.s.QJ hr x) (dY.set (Kp.refl _ w2) 16 (.int .i64 x))
 clear hq
 go_wp2_with (first|(refine aJ _ _ rfl _ rfl HQ.out.s hr rfl ?_)|(refine pY _ rfl rfl _ _ rfl _ rfl rfl HQ.out.z qD hr ?_))
 refine bodyPost_ret (lU rfl _ _ (w.heap.size+1) rfl (HQ.out.z.setRow _ _) hr) rfl ?_
 exact⟨rfl,below_setRow HQ.out.au (Nat.le_succ _)⟩
theorem jU (w:World) {r:List Nat} (hr:Ok r) (g:Int) (x y:Nat) (hx:x<1024) (hy:y<1024):Calls Tryz.prog 58 #[.agg (ak r g),.int .i64 (x:Int),.int .i64 (y:Int)] w fun e w'=>e=.returned (.agg (ak (aA r [(x:Int),(y:Int)]) g))/\Below w.heap.size w w':=by
 have hl:=hr.1
 have hr1:=dN hr (x:Int)
 have hr2:=dN hr1 (y:Int)
 have hl1:=hr1.1
 have hl2:=hr2.1
 show Calls Tryz.prog 58 #[.agg (ak r g),.int .i64 (x:Int),.int .i64 (y:Int)] w fun e w'=>e=.returned (.agg (ak (Bt.gF (Bt.gF r (x:Int)).1 (y:Int)).1 g))/\Below w.heap.size w w'
 have K1:=show Hid (∀ W:World,Calls Tryz.prog 101 #[.agg (Bt.aD r),.int .i64 (x:Int)] W fun e w'=>e=.returned (.agg (Bt.aD (Bt.gF r (x:Int)).1))/\Below W.heap.size W w') from fun W=>by rw[kH hx];exact Bt.AL W hr x hx
 have K2:=show Hid (∀ W:World,Calls Tryz.prog 101 #[.agg (Bt.aD (Bt.gF r (x:Int)).1),.int .i64 (y:Int)] W fun e w'=>e=.returned (.agg (Bt.aD (Bt.gF (Bt.gF r (x:Int)).1 (y:Int)).1))/\Below W.heap.size W w') from fun W=>by rw[kH (n:=y) hy];exact Bt.AL W hr1 y hy
 generalize (Bt.gF (Bt.gF r (x:Int)).1 (y:Int)).1=r2 at *
 generalize (Bt.gF r (x:Int)).1=r1 at *
 clear hr hr1 hr2 hx hy
 go_enter Tryz.func58,Tryz.ntmps58
 go_wp2_with (refine aI 27 _ rfl _ rfl rfl ?_)
 intro w1 b1 hn1
 go_wp2_with (refine aF 27 rfl _ fO rfl ?_)
 intro w2 b2 hn2
 obtain⟨rfl,rfl,hq⟩:=vO hn1 hn2
 have H2:=show Hid _ from hq
 clear hn1 hn2 hq
 go_wp2_with (refine bN _ rfl _ rfl w.heap.size 0 rfl H2.out.s.dL hl ?_)
 refine Calls.mono (K1.out w2) ?_
 rintro e w3 ⟨rfl,hb3⟩
 have H3:=show Hid _ from H2.out.later hb3
 clear H2 hb3 K1
 go_wp2_with fail
 refine Calls.mono (K2.out w3) ?_
 rintro e w4 ⟨rfl,hb4⟩
 have H4:=show Hid _ from H3.out.later hb4
 clear H3 hb4 K2
 go_wp2_with (refine eG _ rfl rfl _ _ rfl w.heap.size rfl rfl H4.out.s hl hl2 ?_)
 intro w5 hs5 hk5
 have H5:=show Hid _ from H4.out.put hs5 hk5
 clear H4 hs5 hk5
 go_wp2_with (first|(refine aJ _ _ rfl _ rfl H5.out.s hl2 rfl ?_)|(refine pY _ rfl rfl _ _ rfl _ rfl rfl H5.out.z qD hl2 ?_))
 refine bodyPost_ret (lU rfl _ _ (w.heap.size+1) rfl (H5.out.z.setRow _ _) hl2) rfl ?_
 exact⟨rfl,below_setRow H5.out.au (Nat.le_succ _)⟩
structure RF (w W:World) (b5 b9:Nat) (r:List Nat) (g:Int) (n:Nd):Prop where
 s:aX W b5 r g
 n:Cl W b9 (bq n).toArray 54
 au:Below w.heap.size w W
theorem RF.later {w W W':World} {b5 b9:Nat} {r:List Nat} {g:Int} {n:Nd} (h:RF w W b5 b9 r g n) (hb:Below W.heap.size W W'):RF w W' b5 b9 r g n:=⟨h.s.later hb h.s.lt,h.n.later hb,h.au.trans (hb.mono h.au.size)⟩
theorem M5 (w:World) {c:Nat} {u:Value} {t:List Nd} (hT:Tr w c u t) {r:List Nat} (g ru main:Int) (hm:Fm.has t main=false) :
 Calls Tryz.prog 56 #[.pointer (some ⟨c,0,none⟩),.agg (ak r g),.int .i64 ru,.int .i64 main] w fun e w'=>e=.returned (.bool (findF t r g ru main))/\Below w.heap.size w w':=by
 have hf:findF t r g ru main=false:=by unfold findF;rw[hm];rfl
 rw[hf]
 have KH:=show Hid (∀ W:World,Below w.heap.size w W->Calls Tryz.prog 33 #[.pointer (some ⟨c,0,none⟩),.int .i64 main] W fun e w''=>e=.returned (.bool false)/\w''=W) from fun W hb=>by have:=cB W (hT.later hb) main;rw[hm] at this;exact this
 clear hT hm hf
 go_enter Tryz.func56,Tryz.ntmps56
 go_wp2_with (refine aI 27 _ rfl _ rfl rfl ?_)
 intro w1 b5 hn1
 go_wp2_with fail
 refine Calls.mono (KH.out _ hn1.au) ?_
 rintro e w2 ⟨rfl,hw⟩
 subst w2
 go_wp2_with fail
 go_ret
 exact⟨rfl,hn1.au⟩
end Go.Proofs.YtkejippimkjjaaaGreatDoor

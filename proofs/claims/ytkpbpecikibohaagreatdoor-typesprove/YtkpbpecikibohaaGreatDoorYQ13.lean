import Derived.Test.YtkpbpecikibohaaGreatDoorYQ12
import Derived.Test.YtkpbpecikibohaaGreatDoorFG3
set_option linter.unusedSimpArgs false
set_option maxRecDepth 100000
set_option maxHeartbeats 8000000
namespace Go.Proofs.YtkpbpecikibohaaGreatDoor.Ya
open Go.RowKit Go.Maps
open Fm (Nd)
open Ty (Tm An Hs env fK pR xB)
def hT:List Nd:=[⟨1,⟨#[112]⟩,0,0⟩,⟨1,⟨#[113]⟩,0,0⟩,⟨3,⟨#[]⟩,0,1⟩,⟨5,⟨#[]⟩,2,0⟩,⟨2,⟨#[]⟩,0,0⟩]
def bX:ByteArray:=⟨#[120]⟩
def bY:ByteArray:=⟨#[121]⟩
def vT (s:ByteArray):Tm:=.mk 1 s Ty.e0 0 []
def qo (k:Int) (y:Tm):Tm:=.mk k Ty.e0 Ty.e0 0 [y]
def Ac (y:Tm):Tm:=.mk 2 bX Ty.e0 0 [y]
theorem Xm:Fm.fr [] hT=(0,hT):=by decide +kernel
theorem h_a:pR hT [] (Ac (qo 5 (vT bX))) 3=([],0):=by decide +kernel
theorem h_b:pR hT [] (Ac (qo 6 (vT bX))) 3=([0],130):=by decide +kernel
theorem h_c:xB hT [(bX,2)] (qo 6 (vT bX))=(1,0):=by decide +kernel
theorem h_d:xB hT [] (vT bY)=(0,131):=by decide +kernel
theorem h_e:xB hT [] (Ac (vT bX))=(0,132):=by decide +kernel
theorem h_f:pR hT [(bX,4)] (qo 10 (vT bX)) 1=([],0):=by decide +kernel
theorem RX:∀ n ∈ hT,Fm.good n:=by
 intro n hn
 have h64:∀ x:Int,0<=x->x<=1024->Fm.i64 x:=fun x h0 h1=>Fm.eT h0 h1
 simp only[hT,List.mem_cons,List.not_mem_nil,or_false] at hn
 rcases hn with rfl | rfl | rfl | rfl | rfl
 all_goals exact⟨h64 _ (by decide) (by decide),by decide,h64 _ (by decide) (by decide),h64 _ (by decide) (by decide)⟩
theorem RY (w:World):lH (w.alloc (Obj.cells (cellsOf hT).toArray 67)) (.slice (some ⟨w.heap.size,0,none⟩) 5 5) hT:=by
 refine⟨_,5,rfl,by decide,by decide,fun _=>⟨w.heap.size,0,rfl,fun k hk => ?_⟩⟩
 have hc:∀ j,j<4->(w.alloc (Obj.cells (cellsOf hT).toArray 67)).cell? ⟨w.heap.size,0+k * 4+j,none⟩=(gQ hT[k])[j]?:=fun j hj=>by
  rw[cell_of_row _ _ _ _ _ _ (heap_alloc_new _ _),Nat.zero_add,<- nP hT k j hk hj]
  simp
 exact⟨hc 0 (by omega),hc 1 (by omega),hc 2 (by omega),hc 3 (by omega)⟩
theorem Dx (w:World):(zeroValue 27).run Tryz.prog w=.ok (.agg #[.int .i64 0,.string ⟨#[]⟩,.string ⟨#[]⟩,.int .i64 0,.slice none 0 0]) w:=by kernel_rfl
theorem pV:(Tryz.prog.info? 27).map (·.size)=some 5:=by kernel_rfl
theorem Dy (k:Int) (n o:ByteArray) (f:Int) (p:Option Addr) (l c:Nat):(#[.int .i64 k,.string n,.string o,.int .i64 f,.slice p l c]:Array Value).all (·.oneCell')=true:=by simp[Value.oneCell']
theorem bg.var (w:World) (L:Nat) (s:ByteArray):bg w L (vT s) (.slice none 0 0):=by
 unfold vT
 rw[bg]
 exact Or.inl ⟨rfl,none,0,rfl⟩
theorem bg.one {w:World} {L q:Nat} {k:Int} {n o:ByteArray} {f:Int} {y:Tm} {kv:Value} (h:Cl w q #[.int .i64 y.k,.string y.n,.string y.o,.int .i64 y.f,kv] 27) (hq:q<L) (hy:bg w L y kv):bg w L (.mk k n o f [y]) (.slice (some ⟨q,0,none⟩) 1 1):=by
 rw[bg]
 refine Or.inr ⟨q,0,1,hq,rfl,?_⟩
 rw[gX]
 exact⟨⟨kv,⟨h.cell 0,h.cell 1,h.cell 2,h.cell 3,h.cell 4⟩,hy⟩,by rw[gX];trivial⟩
theorem bsT (w:World) (k:Int) (n o:ByteArray) (f:Int) (p:Option Addr) (l c:Nat):(Instr.buildSlice 25 1 #[(0,.agg #[.int .i64 k,.string n,.string o,.int .i64 f,.slice p l c])]).run Tryz.prog w=.ok (.slice (some ⟨w.heap.size,0,none⟩) 1 1) (w.alloc (.cells #[.int .i64 k,.string n,.string o,.int .i64 f,.slice p l c] 27)):=by kernel_rfl
theorem bsH (w:World) (s:ByteArray) (f:Int):(Instr.buildSlice 23 1 #[(0,.agg #[.string s,.int .i64 f])]).run Tryz.prog w=.ok (.slice (some ⟨w.heap.size,0,none⟩) 1 1) (w.alloc (.cells #[.string s,.int .i64 f] 46)):=by kernel_rfl
section
variable {ops:Array Oper} {rest:List Oper} {o:Oper} {a:Act} {Q:Exit->Act->World->Prop} {w:World}
theorem l7 (hg:o.guard=none) (x:Operand) (hop:o.op=Op.buildSlice 25 1 #[(0,x)]) (k:Int) (n m:ByteArray) (f:Int) (p:Option Addr) (l c:Nat) (hx:a.eval x=.agg #[.int .i64 k,.string n,.string m,.int .i64 f,.slice p l c])
 (hK:∀ w' q,New w w' q #[.int .i64 k,.string n,.string m,.int .i64 f,.slice p l c] 27->wpList Tryz.prog ops Q rest (a.put o.dst (.slice (some ⟨q,0,none⟩) 1 1)) w'):wpList Tryz.prog ops Q (o :: rest) a w:=by
 refine wpList_plain hg fun K' hK' => ?_
 have hrun:=bsT w k n m f p l c
 unfold Oper.wp
 simp[execOp,hop,hx,hrun,Result.andThen]
 exact hK' _ _ (hK _ _ (bE w _ _))
theorem zu (hg:o.guard=none) (x:Operand) (hop:o.op=Op.buildSlice 23 1 #[(0,x)]) (n:ByteArray) (f:Int) (hx:a.eval x=.agg #[.string n,.int .i64 f])
 (hK:∀ w' q,New w w' q #[.string n,.int .i64 f] 46->wpList Tryz.prog ops Q rest (a.put o.dst (.slice (some ⟨q,0,none⟩) 1 1)) w'):wpList Tryz.prog ops Q (o :: rest) a w:=by
 refine wpList_plain hg fun K' hK' => ?_
 have hrun:=bsH w n f
 unfold Oper.wp
 simp[execOp,hop,hx,hrun,Result.andThen]
 exact hK' _ _ (hK _ _ (bE w _ _))
end
theorem I9 {fn:Func} {p:Tmp} (h:fn.results=#[.cell p 27]) (tmps:Array Value) (w:World) (b:Nat) {x0 x1 x2 x3 x4:Value} (hp:tmps.getD p undef=.pointer (some ⟨b,0,none⟩)) (hc:Cl w b #[x0,x1,x2,x3,x4] 27) :
 (results fn tmps).run Tryz.prog w=.ok (.agg #[x0,x1,x2,x3,x4]) w:=by
 have hp2:tmps[p]?.getD undef=.pointer (some ⟨b,0,none⟩):=by simpa using hp
 simp[results,h,hp2,asAddr,run_loadVar_row w b 27 27 _ (0,0) _ hc Tryz.underlying27 rfl pV,Result.andThen]
theorem Xn (w:World) (s:ByteArray):Calls Tryz.prog 18 #[.string s] w fun e w'=>e=.returned (.agg #[.int .i64 1,.string s,.string Ty.e0,.int .i64 0,.slice none 0 0])/\Below w.heap.size w w':=by
 go_enter Tryz.func18,Tryz.ntmps18
 go_wp2_with (refine aN 27 rfl _ Dx rfl ?_)
 intro w1 b1 hn1
 go_wp2_with (refine aQ 27 rfl rfl _ _ rfl b1 rfl _ rfl _ _ hn1.blk pV rfl (Dy ..) ?_)
 intro w2 hc2 hk2
 have HB:=show Hid _ from bR hn1.av hk2 hn1.ge
 have HC:=show Hid _ from hc2
 clear hn1 hc2 hk2
 go_wp2_with fail
 refine bodyPost_ret (I9 rfl _ _ b1 rfl HC.out) rfl ?_
 exact⟨rfl,HB.out⟩
theorem wW (w:World) (L:Nat):qC w L (.slice none 0 0) []:=⟨none,0,rfl,by decide,fun k hk=>absurd hk (by simp)⟩
theorem GR {w:World} {L q:Nat} {s:ByteArray} {f:Int} (h:Cl w q #[.string s,.int .i64 f] 46) (hq:q<L):qC w L (.slice (some ⟨q,0,none⟩) 1 1) [(s,f)]:=by
 refine⟨_,1,rfl,by simp,fun k hk => ?_⟩
 obtain rfl:k=0:=by simpa using hk
 exact⟨q,0,hq,rfl,h.cell 0,h.cell 1⟩
theorem Ad (s:ByteArray) (hs:s.size<=140737488351232):Gt (vT s):=by
 unfold vT
 rw[Gt,qx]
 exact⟨⟨by decide,by decide⟩,hs,by decide,⟨by decide,by decide⟩,by simp,trivial⟩
theorem rA {k:Int} {n o:ByteArray} {y:Tm} (hk:Fm.i64 k) (hn:n.size<=140737488351232) (ho:o.size<=140737488351232) (hy:Gt y):Gt (.mk k n o 0 [y]):=by
 rw[Gt,qx,qx]
 exact⟨hk,hn,ho,⟨by decide,by decide⟩,by simp,hy,trivial⟩
theorem l8 {k:Int} (h0:0<=k) (h1:k<=1024):Fm.i64 k:=Fm.eT h0 h1
theorem L6 (w:World) (u v:Value) (l:List Int) (hu:mJ w u l) (hv:mJ w v l):Calls Tryz.prog 12 #[u,v] w fun e w'=>e=.returned (.bool true)/\Below w.heap.size w w':=by
 obtain⟨p,c,rfl,hlen,hcell⟩:=hu
 obtain⟨q,d,rfl,-,hcell2⟩:=hv
 have HC:=show Hid (∀ W,Below w.heap.size w W->∀ k (hk:k<l.length),∃ b,p=some ⟨b,0,none⟩/\W.cell? ⟨b,k,none⟩=some (.int .i64 l[k])) from fun W hW k hk=>by
  obtain⟨b,hp,hc⟩:=hcell k hk
  exact⟨b,hp,(hW.cell (p:=⟨b,_,none⟩) (World.block_lt_of_cell? w _ hc)).trans hc⟩
 have HD:=show Hid (∀ W,Below w.heap.size w W->∀ k (hk:k<l.length),∃ b,q=some ⟨b,0,none⟩/\W.cell? ⟨b,k,none⟩=some (.int .i64 l[k])) from fun W hW k hk=>by
  obtain⟨b,hp,hc⟩:=hcell2 k hk
  exact⟨b,hp,(hW.cell (p:=⟨b,_,none⟩) (World.block_lt_of_cell? w _ hc)).trans hc⟩
 clear hcell hcell2
 go_enter Tryz.func12,Tryz.ntmps12
 go_wp2
 go_loopw [5] (fun n wr=>∃ k:Nat,k<=l.length/\n=.int .i64 (k:Int)/\Hid (Below w.heap.size w wr)) (fun n _=>l.length - (intOf n).toNat)
 case atStart=>exact⟨0,by omega,rfl,Below.refl _ _⟩
 case round=>
  obtain⟨k,hk,rfl,HQ⟩:=hrel
  by_cases hlt:k<l.length
  ·obtain⟨b1,rfl,hc⟩:=HC.out wr HQ.out k hlt
   obtain⟨b2,rfl,hd⟩:=HD.out wr HQ.out k hlt
   have Dz:(k:Int)<(l.length:Int):=by omega
   have HZ:=show Hid (Below w.heap.size w wr.drew) from HQ.out.drew
   clear HC HD HQ
   generalize l[k]=n at *
   go_wp2
   go_region
   clear hc hd
   go_wp2
   go_roundw
   case rel=>exact⟨k+1,by omega,by go_num,HZ.out⟩
   case measure=>(simp only[intOf];omega)
  ·have hge:¬ (k:Int)<(l.length:Int):=by omega
   clear HC HD
   go_wp2
   go_ret
   exact⟨rfl,HQ.out⟩
structure Hd (w W:World) (b m:Nat) (v:Value) (b3 q3 b4 q4:Nat):Prop where
 tb:Tb W b m v hT
 sd:Std W
 be:Below w.heap.size w W
 c3:Cl W b3 #[.int .i64 5,.string Ty.e0,.string Ty.e0,.int .i64 0,.slice (some ⟨q3,0,none⟩) 1 1] 27
 k3:bg W W.heap.size (qo 5 (vT bX)) (.slice (some ⟨q3,0,none⟩) 1 1)
 c4:Cl W b4 #[.int .i64 6,.string Ty.e0,.string Ty.e0,.int .i64 0,.slice (some ⟨q4,0,none⟩) 1 1] 27
 k4:bg W W.heap.size (qo 6 (vT bX)) (.slice (some ⟨q4,0,none⟩) 1 1)
theorem Hd.later {w W W':World} {b m:Nat} {v:Value} {b3 q3 b4 q4:Nat} (h:Hd w W b m v b3 q3 b4 q4) (hb:Below W.heap.size W W'):Hd w W' b m v b3 q3 b4 q4 :=
 ⟨h.tb.later hb,h.sd.later hb,h.be.trans (hb.mono h.be.size),h.c3.later hb,h.k3.up hb,h.c4.later hb,h.k4.up hb⟩
theorem FJ (w:World) (hS:Std w):Calls Tryz.prog 6 #[] w fun e w'=>e=.returned (.bool true)/\Below w.heap.size w w':=by
 have KF:=show Hid (Calls Tryz.prog 17 #[.slice (some ⟨w.heap.size,0,none⟩) 5 5] (w.alloc (Obj.cells (cellsOf hT).toArray 67)) fun e w'=>∃ B M v,e=.returned (.tuple #[.pointer (some ⟨B,0,none⟩),.int .i64 0])/\Tb w' B M v hT/\Std w'/\Below w.heap.size w w') from
  (Dg _ _ _ (RY w) RX (by decide)).mono fun e w' h=>by
   rw[Xm] at h
   have hb:Below w.heap.size w w':=(ak w _).trans (h.2.mono (ak w _).size)
   rcases h.1 with ⟨_,B,M,v,he,hT,hge⟩ | ⟨h0,_⟩
   ·exact⟨B,M,v,he,hT,hS.later hb,hb⟩
   ·exact absurd rfl h0
 have KV:=show Hid _ from Xn
 clear hS
 go_enter Tryz.func6,Tryz.ntmps6
 go_wp2_with fail
 refine KF.out.mono ?_
 rintro e w1 ⟨b,m,v,rfl,hT1,hS1,hB1⟩
 have H1:=show Hid _ from And.intro hT1 (And.intro hS1 hB1)
 clear KF hT1 hS1 hB1
 go_wp2_with fail
 refine Calls.mono (KV.out w1 bX) ?_
 rintro e w2 ⟨rfl,hb2⟩
 have HB2:=show Hid (Below w1.heap.size w1 w2) from hb2
 clear hb2
 go_wp2_with (refine l7 rfl _ rfl _ _ _ _ _ _ _ rfl ?_)
 intro w3 q3 aL
 have Qo:=show Hid _ from aL
 clear aL
 go_wp2_with (refine aN 27 rfl _ Dx rfl ?_)
 intro w4 b3 fV
 go_wp2_with (refine aQ 27 rfl rfl _ _ rfl b3 rfl _ rfl _ _ fV.blk pV rfl (Dy ..) ?_)
 intro w5 jZ hk5
 have jN:=show Hid (Below w3.heap.size w3 w5) from bR fV.av hk5 fV.ge
 have Kc:=show Hid (Cl w5 b3 #[.int .i64 5,.string Ty.e0,.string Ty.e0,.int .i64 0,.slice (some ⟨q3,0,none⟩) 1 1] 27) from jZ
 clear fV jZ hk5
 go_wp2_with fail
 refine Calls.mono (KV.out w5 bX) ?_
 rintro e w6 ⟨rfl,hb6⟩
 have xC:=show Hid (Below w5.heap.size w5 w6) from hb6
 clear hb6
 go_wp2_with (refine l7 rfl _ rfl _ _ _ _ _ _ _ rfl ?_)
 intro w7 q4 Bn
 have Ko:=show Hid _ from Bn
 clear Bn
 go_wp2_with (refine aN 27 rfl _ Dx rfl ?_)
 intro w8 b4 uZ
 go_wp2_with (refine aQ 27 rfl rfl _ _ rfl b4 rfl _ rfl _ _ uZ.blk pV rfl (Dy ..) ?_)
 intro w9 sG kD
 have Uw:=show Hid (Hd w w9 b m v b3 q3 b4 q4) from by
  have Ym:Below w7.heap.size w7 w9:=bR uZ.av kD uZ.ge
  have b69:Below w6.heap.size w6 w9:=Ko.out.av.trans (Ym.mono Ko.out.av.size)
  have Yn:Below w5.heap.size w5 w9:=xC.out.trans (b69.mono xC.out.size)
  have Yo:Below w3.heap.size w3 w9:=jN.out.trans (Yn.mono jN.out.size)
  have b29:Below w2.heap.size w2 w9:=Qo.out.av.trans (Yo.mono Qo.out.av.size)
  have b19:Below w1.heap.size w1 w9:=HB2.out.trans (b29.mono HB2.out.size)
  have c3:Cl w9 q3 _ _:=Cl.later (show Cl w3 q3 #[.int .i64 1,.string bX,.string Ty.e0,.int .i64 0,.slice none 0 0] 27 from Qo.out.blk) Yo
  have c4:Cl w9 q4 _ _:=Cl.later (show Cl w7 q4 #[.int .i64 1,.string bX,.string Ty.e0,.int .i64 0,.slice none 0 0] 27 from Ko.out.blk) Ym
  exact⟨H1.out.1.later b19,H1.out.2.1.later b19,H1.out.2.2.trans (b19.mono H1.out.2.2.size),Cl.later Kc.out Yn,bg.one (y:=vT bX) c3 c3.lt (bg.var _ _ _),sG,bg.one (y:=vT bX) c4 c4.lt (bg.var _ _ _)⟩
 clear uZ sG kD HB2 Qo jN Kc xC Ko H1
 go_wp2_with (first|(refine fq 27 _ rfl b3 rfl _ _ Uw.out.c3 rfl Tryz.underlying27 pV rfl ?_)|(refine l7 rfl _ rfl _ _ _ _ _ _ _ rfl ?_))
 intro DC q10 Ja
 have DF:=show Hid _ from Uw.out.later Ja.av
 have KQ:=show Hid _ from pG DC (hs:=[]) (x:=(Ac (qo 5 (vT bX)))) (sv:=.slice (some ⟨q10,0,none⟩) 1 1) DF.out.tb (wW _ _) (fun _ h=>by cases h) (bg.one (y:=qo 5 (vT bX)) Ja.blk (Cl.lt Ja.blk) DF.out.k3) (rA (l8 (by decide) (by decide)) (by decide) (by decide) (rA (l8 (by decide) (by decide)) (by decide) (by decide) (Ad bX (by decide)))) DF.out.sd 3
 clear Ja Uw
 rw[h_a] at KQ
 go_wp2_with fail
 refine Calls.mono KQ.out ?_
 rintro e DI ⟨rfl,rC⟩
 have Oz:=show Hid _ from DF.out.later rC
 clear rC KQ DF
 go_wp2_with (first|(refine fq 27 _ rfl b4 rfl _ _ Oz.out.c4 rfl Tryz.underlying27 pV rfl ?_)|(refine l7 rfl _ rfl _ _ _ _ _ _ _ rfl ?_))
 intro w12 q12 Jb
 have DJ:=show Hid _ from Oz.out.later Jb.av
 have KQ:=show Hid _ from Bd w12 (hs:=[]) (x:=(Ac (qo 6 (vT bX)))) (sv:=.slice (some ⟨q12,0,none⟩) 1 1) DJ.out.tb (wW _ _) (fun _ h=>by cases h) (bg.one (y:=qo 6 (vT bX)) Jb.blk (Cl.lt Jb.blk) DJ.out.k4) (rA (l8 (by decide) (by decide)) (by decide) (by decide) (rA (l8 (by decide) (by decide)) (by decide) (by decide) (Ad bX (by decide)))) DJ.out.sd 3
 clear Jb Oz
 rw[h_b] at KQ
 go_wp2_with fail
 refine Calls.mono KQ.out ?_
 rintro e w13 ⟨yv,rfl,OA,sP⟩
 have Ux:=show Hid _ from DJ.out.later sP
 have Uy:=show Hid (mJ w13 yv [0]) from Ku OA (by simp)
 obtain⟨yp,yc,rfl⟩:=gY OA
 clear sP KQ DJ OA
 go_wp2_with (refine zu rfl _ rfl _ _ rfl ?_)
 intro w14 q14 DK
 have Ae:=show Hid _ from Ux.out.later DK.av
 have Uz:=show Hid _ from mJ.later Uy.out DK.av
 have KQ:=show Hid _ from vS w14 (hs:=[(bX,2)]) (x:=qo 6 (vT bX)) Ae.out.tb (GR DK.blk (Cl.lt DK.blk)) (fun h hh=>by simp at hh;subst hh;exact⟨by decide,l8 (by decide) (by decide)⟩) Ae.out.k4 (rA (l8 (by decide) (by decide)) (by decide) (by decide) (Ad bX (by decide))) Ae.out.sd
 rw[h_c] at KQ
 clear DK Ux Uy
 go_wp2_with (refine fq 27 _ rfl b4 rfl _ _ Ae.out.c4 rfl Tryz.underlying27 pV rfl ?_)
 refine Calls.mono KQ.out ?_
 rintro e w15 ⟨rfl,OB⟩
 have UA:=show Hid _ from Ae.out.later OB
 have UC:=show Hid _ from mJ.later Uz.out OB
 clear OB KQ Ae Uz
 go_wp2_with fail
 refine Calls.mono (KV.out w15 bY) ?_
 rintro e w16 ⟨rfl,OC⟩
 have Jc:=show Hid _ from UA.out.later OC
 have UD:=show Hid _ from mJ.later UC.out OC
 have KQ:=show Hid _ from vS w16 (hs:=[]) (x:=vT bY) Jc.out.tb (wW _ _) (fun _ h=>by cases h) (bg.var _ _ _) (Ad bY (by decide)) Jc.out.sd
 rw[h_d] at KQ
 clear OC UA UC
 go_wp2_with fail
 refine Calls.mono KQ.out ?_
 rintro e w17 ⟨rfl,OD⟩
 have UE:=show Hid _ from Jc.out.later OD
 have UF:=show Hid _ from mJ.later UD.out OD
 clear OD KQ Jc UD
 go_wp2_with fail
 refine Calls.mono (KV.out w17 bX) ?_
 rintro e w18 ⟨rfl,OE⟩
 have UG:=show Hid _ from UE.out.later OE
 have UH:=show Hid _ from mJ.later UF.out OE
 clear OE UE UF
 go_wp2_with (refine l7 rfl _ rfl _ _ _ _ _ _ _ rfl ?_)
 intro w19 q19 DN
 have Jd:=show Hid _ from UG.out.later DN.av
 have UJ:=show Hid _ from mJ.later UH.out DN.av
 have KQ:=show Hid _ from vS w19 (hs:=[]) (x:=Ac (vT bX)) Jd.out.tb (wW _ _) (fun _ h=>by cases h) (bg.one (y:=vT bX) DN.blk (Cl.lt DN.blk) (bg.var _ _ _)) (rA (l8 (by decide) (by decide)) (by decide) (by decide) (Ad bX (by decide))) Jd.out.sd
 rw[h_e] at KQ
 clear DN UG UH
 go_wp2_with fail
 refine Calls.mono KQ.out ?_
 rintro e w20 ⟨rfl,OG⟩
 have UK:=show Hid _ from Jd.out.later OG
 have UL:=show Hid _ from mJ.later UJ.out OG
 clear OG KQ Jd UJ
 go_wp2_with (refine zu rfl _ rfl _ _ rfl ?_)
 intro Yp UM Je
 have UN:=show Hid _ from UK.out.later Je.av
 have UO:=show Hid _ from mJ.later UL.out Je.av
 have UQ:=show Hid (Cl Yp UM #[.string bX,.int .i64 4] 46) from Je.blk
 clear Je UK UL
 go_wp2_with fail
 refine Calls.mono (KV.out Yp bX) ?_
 rintro e w22 ⟨rfl,Jf⟩
 have UR:=show Hid _ from UN.out.later Jf
 have UU:=show Hid _ from mJ.later UO.out Jf
 have UW:=show Hid (Cl w22 UM #[.string bX,.int .i64 4] 46) from Cl.later UQ.out Jf
 clear Jf UN UO UQ
 go_wp2_with (refine l7 rfl _ rfl _ _ _ _ _ _ _ rfl ?_)
 intro Yq q23 Ag
 have Jg:=show Hid _ from UR.out.later Ag.av
 have UY:=show Hid _ from mJ.later UU.out Ag.av
 have OH:Cl Yq UM #[.string bX,.int .i64 4] 46:=Cl.later UW.out Ag.av
 have KQ:=show Hid _ from pG Yq (hs:=[(bX,4)]) (x:=qo 10 (vT bX)) Jg.out.tb (GR OH OH.lt) (fun h hh=>by simp at hh;subst hh;exact⟨by decide,l8 (by decide) (by decide)⟩) (bg.one (y:=vT bX) Ag.blk (Cl.lt Ag.blk) (bg.var _ _ _)) (rA (l8 (by decide) (by decide)) (by decide) (by decide) (Ad bX (by decide))) Jg.out.sd 1
 rw[h_f] at KQ
 clear Ag UR UU UW OH
 go_wp2_with fail
 refine Calls.mono KQ.out ?_
 rintro e GU ⟨rfl,OI⟩
 have OJ:=show Hid _ from Jg.out.later OI
 have UZ:=show Hid _ from mJ.later UY.out OI
 clear OI KQ Jg UY
 go_wp2_with fail
 have Jh:Below GU.heap.size GU (GU.alloc (Obj.cells #[Value.int IntKind.i64 0] 3)):=ak _ _
 refine Calls.mono (L6 _ (.slice yp 1 yc) (.slice (some ⟨GU.heap.size,0,none⟩) 1 1) [0] (mJ.later UZ.out Jh) ⟨_,1,rfl,by simp,fun k hk=>⟨GU.heap.size,rfl,?_⟩⟩) ?_
 ·obtain rfl:k=0:=by simpa using hk
  exact Cl.cell (show Cl _ _ _ _ from(bE GU #[.int .i64 0] 3).blk) 0
 rintro e w26 ⟨rfl,U0⟩
 have HB:=show Hid (Below w.heap.size w w26) from(OJ.out.later Jh).be.trans (U0.mono (OJ.out.later Jh).be.size)
 clear Jh U0 OJ UZ KV
 go_wp2_with fail
 go_ret
 exact⟨rfl,HB.out⟩
end Go.Proofs.YtkpbpecikibohaaGreatDoor.Ya

import Derived.Test.YtkpbpecikibohaaGreatDoorYQ02
import Derived.Maps.AppendAt
set_option linter.unusedSimpArgs false
set_option maxRecDepth 100000
set_option maxHeartbeats 4000000
namespace Go.Proofs.YtkpbpecikibohaaGreatDoor.Ya
open Go.RowKit Go.Maps
open Fm (Nd)
open Ty (Tm An)
theorem Gi {w:World} {B g cap:Nat} {way:List Int} {i:Int} (h:w.ownsRow B 3 1 (.slice (some ⟨g,0,none⟩) (way.length+1) cap) (way ++ [i]).length (dG (way ++ [i]))):w.ownsRow B 3 1 (.slice (some ⟨g,0,none⟩) way.length cap) way.length (dG way):=by
 refine⟨by simp[dG],Or.inr ?_⟩
 rcases h.2 with ⟨h0,_⟩ | ⟨g',cap',cur,hv,hg,hh,h1,h2,h3,h4⟩
 ·cases h0
 ·obtain⟨h5,_,h6⟩:=Value.slice.inj hv
  obtain rfl:g=g':=by injection h5 with h5;injection h5
  subst h6
  simp only[List.length_append,List.length_singleton] at h1 h4
  refine⟨g,cap,cur,rfl,hg,hh,by omega,h2,h3,?_⟩
  have:=congrArg (List.take way.length) h4
  rw[List.take_take] at this
  simp[dG] at this |-
  first|exact this | (rw[Nat.min_eq_left (by omega)] at this;exact this)
theorem lN {w:World} {q:Nat} {v:Value} (h:w.cell? ⟨q,0,none⟩=some v):∀ (j:Nat) (u:Value),[v][j]?=some u->w.cell? ((⟨q,0,none⟩:Addr).add j)=some u:=by
 intro j u hu
 match j,hu with
 | 0,hu=>
  rw[Addr.add_lit]
  simp at hu
  rw[<- hu]
  exact h
theorem jd {S S':Nat->Prop} {w w':World} (h:Kp S w w') (hS:∀ k,S k->S' k):Kp S' w w':=⟨h.os,h.tape,h.output,h.size,fun k hk hn=>h.block k hk fun h'=>hn (hS k h')⟩
theorem Q8 {w:World} {C:Nat} {a1 a2 a3:Value} {T0:TypeId} (h:Cl w C #[a1,a2,a3] T0) (p:Option Addr) (n c:Nat):(Instr.storeAt 37 (.pointer (some ⟨C,2,none⟩)) (.slice p n c)).run Tryz.prog w=.ok () (w.setCell ⟨C,2,none⟩ (.slice p n c)):=by
 have hc:w.cell? ⟨C,2,none⟩=some a3:=h.cell 2
 have hf:=h.fr 2
 go_simp
theorem yS {ops:Array Oper} {rest:List Oper} {o:Oper} {a:Act} {Q:Exit->Act->World->Prop} {w:World} (hg:o.guard=none) (hd:o.dst=none) (x y:Operand) (hop:o.op=Op.store 37 x y) (C:Nat) (hx:a.eval x=.pointer (some ⟨C,2,none⟩)) (p:Option Addr) (n c:Nat) (hy:a.eval y=.slice p n c) {a1 a2 a3:Value} {T0:TypeId} (h:Cl w C #[a1,a2,a3] T0)
 (hK:∀ w',Cl w' C #[a1,a2,.slice p n c] T0->dn C w w'->wpList Tryz.prog ops Q rest a w'):wpList Tryz.prog ops Q (o :: rest) a w:=by
 refine wpList_plain hg fun K' hK' => ?_
 have hrun:=Q8 h p n c
 unfold Oper.wp
 simp[execOp,hop,hx,hy,hrun,Result.andThen]
 rw[Oper.upon_skip,hd]
 exact hK' _ _ (hK _ (heap_setCell_same w C 2 _ _ _ h) (dn.set (Kp.refl _ w) 2 _))
theorem rX {w:World} {B l:Nat} {e:TypeId} {v:Value} {xs:List Value} (h:w.ownsRow B e 1 v (l+1) xs):∃ g c,v=.slice (some ⟨g,0,none⟩) (l+1) c/\l+1<=c/\c<=9223372036854775807:=by
 rcases h.2 with ⟨_,h0⟩ | ⟨g,cap,cur,rfl,_,_,h1,h2,_⟩
 ·cases h0
 ·exact⟨g,cap,rfl,h1,by unfold maxLen at h2;omega⟩
theorem Ck.Iq {w w':World} {B C m n:Nat} {pt:Value} {g:Ty.Env} {wv v':Value} {way xU:List Int} (h:Ck w B C m n pt g wv way) (hg:Kp (fun k=>k=C\/wv.ownBlock=some k) w w') (hb:Cl w' C #[pt,.map (some m),v'] 108) (ho:w'.ownsRow B 3 1 v' xU.length (dG xU)):Ck w' B C m n pt g v' xU :=
 ⟨hb,h.map.keep (hg.block m h.map.lt fun e=>by
  rcases e with e | e
  ·exact h.Cm e.symm
  ·exact h.wm e),ho,h.cB,h.mB⟩
theorem nS (w:World) {B C m n n':Nat} {pt:Value} {g:Ty.Env} {wv sv:Value} {way:List Int} {x y:Tm} (i:Nat) (hi:i<x.sub.length) (hy:x.sub[i]=y) (h:Ck w B C m n pt g wv way) (hl:way.length+1<=1000000) (hB:B<=w.heap.size) (hK:bg w B x sv) (hx:x.sub.length<=140737488351232) {A:An}
 (hC:∀ (W:World) (kv wv':Value),Below B w W->bg W B y kv->Ck W B C m n pt g wv' (way ++ [(i:Int)])->Calls Tryz.prog 21 #[.pointer (some ⟨C,0,none⟩),bL y kv] W fun r w'=>∃ wv2,gT B w' r wv2 A/\Af W w' B C m n' pt g wv' wv2 (way ++ [(i:Int)])) :
 Calls Tryz.prog 85 #[.pointer (some ⟨C,0,none⟩),bL x sv,.int .i64 (i:Int)] w fun r w'=>∃ wv2,gT B w' r wv2 A/\Af w w' B C m n' pt g wv wv2 way:=by
 obtain⟨p,c,rfl,hat⟩:=hK.subs
 obtain⟨b,o,hbl,rfl,mG⟩:=hat (by omega)
 have HAT:=show Hid (∀ W,Below B w W->∃ kv,vG W b (o+i * 5) y kv/\bg W B y kv) from fun W hW=>hy ▸ mG W hW i hi
 have vH:=show Hid _ from hC
 have kN:=show Hid (Ck w B C m n pt g wv way) from h
 obtain⟨pw,cw,rfl⟩:=gY h.row
 clear hat mG hK hC hy
 unfold bL
 generalize x.sub.length=sl at *
 generalize x.k=xk at *
 generalize x.n=xn at *
 generalize x.o=xo at *
 generalize x.f=xf at *
 go_enter Tryz.func85,Tryz.ntmps85
 go_wp2_with (refine aC 27 _ rfl _ rfl rfl ?_)
 intro w1 bx hn1
 have bU:=show Hid (New w w1 bx #[.int .i64 xk,.string xn,.string xo,.int .i64 xf,.slice (some ⟨b,o,none⟩) sl c] 27) from hn1
 have CP:=show Hid _ from h.later hn1.av
 have c2:w1.cell? ⟨C,2,none⟩=some (.slice pw way.length cw):=CP.out.blk.cell 2
 clear hn1 h
 go_wp2_with (refine jM rfl _ rfl _ rfl ?_)
 intro w2 q2 hn2
 have pK:=show Hid (New w1 w2 q2 #[.int .i64 (i:Int)] 3) from hn2
 have nT:=show Hid _ from CP.out.later hn2.av
 have aA:=show Hid (Cl w2 bx _ _) from Cl.new bU.out.blk hn2
 have hcq:w2.cell? ⟨q2,0,none⟩=some (.int .i64 (i:Int)):=Cl.cell hn2.blk 0
 obtain⟨i0,hi0,hz0,hz1,hz2⟩:=info_parts qW
 have hB2:B<=w2.heap.size:=by have:=bU.out.av.size;have:=hn2.av.size;omega
 clear hn2 c2
 go_wp2_with (at_builtin;refine wpList_append_own_at _ rfl (.tmp 14) (.tmp 16) 37 rfl B 3 i0 (.int .i64 0) 1 8 Tryz.underlying37 hi0 hz0 hz1 hz2 rfl (by decide) (.slice pw way.length cw) way.length (dG way) rfl nT.out.row ⟨q2,0,none⟩ 1 1 [.int .i64 (i:Int)] rfl rfl (lN hcq) (by intro u hu;simp at hu;subst hu;rfl) (by unfold maxLen;omega) (by omega) hB2 ?_)
 intro v3 w3 ho3 hg3 _ nU
 have hon:w3.ownsRow B 3 1 v3 (way.length+1) (dG (way ++ [(i:Int)])):=by
  have e:dG (way ++ [(i:Int)])=dG way ++ [.int .i64 (i:Int)]:=by simp[dG]
  rw[e]
  exact ho3
 obtain⟨g3,vI,rfl,hle3,_⟩:=rX hon
 have vJ:Kp (fun k=>k=C\/(Value.slice pw way.length cw).ownBlock=some k) w2 w3:=⟨hg3.os,hg3.tape,hg3.output,hg3.size,fun k hk hne=>hg3.block k hk fun e=>hne (Or.inr e.symm)⟩
 have Ke:Cl w3 C #[pt,.map (some m),.slice pw way.length cw] 108:=(hg3.block C nT.out.blk.lt fun e=>nT.out.wC e.symm).trans nT.out.blk
 have H3:=show Hid (Cl w3 C #[pt,.map (some m),.slice pw way.length cw] 108) from Ke
 have Kg:=show Hid _ from And.intro hon (And.intro vJ nU)
 clear hi0 hz0 hz1 hz2 hcq hg3 ho3 nU hon vJ Ke
 go_wp2_with (refine yS rfl rfl _ _ rfl C rfl (some ⟨g3,0,none⟩) (way.length+1) vI rfl H3.out ?_)
 intro w4 hc4 hk4
 obtain⟨hon,vJ,nU⟩:=Kg.out
 have tJ:Kp (fun k=>k=C\/(Value.slice pw way.length cw).ownBlock=some k) w2 w4:=vJ.trans (jd (S':=fun k=>k=C\/(Value.slice pw way.length cw).ownBlock=some k) hk4 fun k e=>Or.inl e) fun k e=>Or.inl e
 have mW:Ck w4 B C m n pt g (.slice (some ⟨g3,0,none⟩) (way.length+1) vI) (way ++ [(i:Int)]) :=
  nT.out.Iq tJ hc4 (by
   rw[List.length_append,List.length_singleton]
   refine bD hon fun k e => ?_
   obtain⟨_,hlt,cur,hh⟩:=aP hon k e
   refine hk4.block k hlt fun e2 => ?_
   subst e2
   rw[show w3.heap[_]?=_ from H3.out] at hh
   injection hh with hh
   injection hh with _ h3 _
   exact absurd h3 (by decide))
 have oK:Af w w4 B C m n pt g (.slice pw way.length cw) (.slice (some ⟨g3,0,none⟩) (way.length+1) vI) (way ++ [(i:Int)]):=by
  refine⟨mW,fun k e => ?_,?_⟩
  ·rcases nU with e2 | e2
   ·exact Or.inl (e2 ▸ e)
   ·have:k=w2.heap.size:=Option.some.inj (e.symm.trans e2)
    have:=bU.out.av.size
    have:=pK.out.av.size
    exact Or.inr (by omega)
  ·refine((Kp.of_below bU.out.av).trans ((Kp.of_below pK.out.av).trans (jd tJ (S':=Fc C m (Value.slice pw way.length cw)) ?_) fun k e=>Or.inl e) fun k e=>Or.inl e)
   rintro k (e | e)
   ·exact Or.inl e
   ·exact Or.inr (Or.inr e)
 have hx4:Cl w4 bx #[.int .i64 xk,.string xn,.string xo,.int .i64 xf,.slice (some ⟨b,o,none⟩) sl c] 27 :=
  (tJ.block bx aA.out.lt (by
   rintro(e | e)
   ·exact nT.out.nf aA.out (by decide) (by decide) (Or.inl e)
   ·exact nT.out.nf aA.out (by decide) (by decide) (Or.inr (Or.inr e)))).trans aA.out
 have qA:Below B w w4:=kN.out.below oK.kp hB
 obtain⟨kv,h5,iE⟩:=HAT.out w4 qA
 have KT:=show Hid _ from vH.out w4 kv (.slice (some ⟨g3,0,none⟩) (way.length+1) vI) qA iE mW
 obtain⟨kp,kn,kc,rfl⟩:=iE.form
 obtain⟨a0,a1,a2,a3,a4⟩:=h5
 have x4:w4.cell? ⟨bx,4,none⟩=some (.slice (some ⟨b,o,none⟩) sl c):=hx4.cell 4
 have pJ:=show Hid (Af w w4 B C m n pt g (.slice pw way.length cw) (.slice (some ⟨g3,0,none⟩) (way.length+1) vI) (way ++ [(i:Int)])) from oK
 have hii:(i:Int)<(sl:Int):=by omega
 unfold bL at KT
 generalize y.k=yk at *
 generalize y.n=yn at *
 generalize y.o=yo at *
 generalize y.f=yf at *
 clear hc4 hk4 tJ mW oK hx4 qA iE hon vJ nU Kg H3 vH HAT CP nT bU pK aA
 go_wp2_with fail
 refine Calls.mono KT.out ?_
 rintro e w5 ⟨xu,ku,dN⟩
 have Ir:(way ++ [(i:Int)]).length=way.length+1:=by simp
 have yT:w5.ownsRow B 3 1 xu (way.length+1) (dG (way ++ [(i:Int)])):=Ir ▸ dN.ck.row
 obtain⟨g5,jO,rfl,Za,Zb⟩:=rX yT
 have fG:=show Hid _ from dN
 have fU:=show Hid _ from ku
 have c5:w5.cell? ⟨C,2,none⟩=some (.slice (some ⟨g5,0,none⟩) (way.length+1) jO):=dN.ck.blk.cell 2
 have f5:w5.frozen? ⟨C,2,none⟩=false:=dN.ck.blk.fr 2
 have qj:=show Hid (Af w (w5.drew.setCell ⟨C,2,none⟩ (.slice (some ⟨g5,0,none⟩) way.length jO)) B C m n' pt g (.slice pw way.length cw) (.slice (some ⟨g5,0,none⟩) way.length jO) way/\∀ q e wy,Rf w5 B q e wy (.slice (some ⟨g5,0,none⟩) (way.length+1) jO)->Rf (w5.drew.setCell ⟨C,2,none⟩ (.slice (some ⟨g5,0,none⟩) way.length jO)) B q e wy (.slice (some ⟨g5,0,none⟩) way.length jO)) from by
  have tK:Ck w5.drew B C m n' pt g (.slice (some ⟨g5,0,none⟩) (way.length+1) jO) (way ++ [(i:Int)]):=dN.ck.later (Below.refl _ _).drew
  have CQ:dn C w5.drew (w5.drew.setCell ⟨C,2,none⟩ (.slice (some ⟨g5,0,none⟩) way.length jO)):=dn.set (Kp.refl _ _) 2 _
  have vK:Kp (Fc C m (.slice (some ⟨g5,0,none⟩) (way.length+1) jO)) w5.drew (w5.drew.setCell ⟨C,2,none⟩ (.slice (some ⟨g5,0,none⟩) way.length jO)):=jd CQ fun k e=>Or.inl e
  have TG:Ck (w5.drew.setCell ⟨C,2,none⟩ (.slice (some ⟨g5,0,none⟩) way.length jO)) B C m n' pt g (.slice (some ⟨g5,0,none⟩) way.length jO) way:=by
   refine tK.Iq (jd CQ fun k e=>Or.inl e) (heap_setCell_same _ C 2 _ _ _ tK.blk) ?_
   refine bD (Gi tK.row) fun k e => ?_
   obtain⟨_,hlt,cur,hh⟩:=aP tK.row k e
   refine CQ.block k hlt fun e2 => ?_
   subst e2
   exact tK.wC e
  refine⟨?_,fun q e wy hrf => ?_⟩
  ·refine(pJ.out.trans dN).trans ((Af.new dN.ck (Below.refl _ _).drew).trans ⟨TG,fun k e=>Or.inl e,vK⟩)
  ·exact((hrf.later (Below.refl _ _).drew).af tK vK).wv rfl
 clear dN ku yT KT pJ fG a0 a1 a2 a3 a4 x4
 have hb1:(way.length:Int)<=(jO:Int):=by omega
 have hb2:way.length<=jO:=by omega
 cases A with
 | ok f=>
  obtain rfl:=fU.out
  clear fU
  go_wp2_with fail
  go_region
  go_wp2_with fail
  go_ret2
  exact⟨_,rfl,qj.out.1⟩
 | no er wy=>
  obtain⟨q,rfl,hrf⟩:=fU.out
  have HR:=show Hid _ from qj.out.2 _ _ _ hrf
  clear fU hrf
  go_wp2_with fail
  go_region
  go_wp2_with fail
  go_ret2
  exact⟨_,⟨q,rfl,HR.out⟩,qj.out.1⟩
theorem gZ (w:World) {B C m n n':Nat} {pt:Value} {g:Ty.Env} {wv sv:Value} {way:List Int} {x y:Tm} (i:Nat) (hi:i<x.sub.length) (hy:x.sub[i]=y) (h:Ck w B C m n pt g wv way) (hl:way.length+1<=1000000) (hB:B<=w.heap.size) (hK:bg w B x sv) (hx:x.sub.length<=140737488351232) {A:An} (id:Int)
 (hC:∀ (W:World) (kv wv':Value),Below B w W->bg W B y kv->Ck W B C m n pt g wv' (way ++ [(i:Int)])->Calls Tryz.prog 22 #[.pointer (some ⟨C,0,none⟩),bL y kv,.int .i64 id] W fun r w'=>∃ wv2,fC B w' r wv2 A/\Af W w' B C m n' pt g wv' wv2 (way ++ [(i:Int)])) :
 Calls Tryz.prog 84 #[.pointer (some ⟨C,0,none⟩),bL x sv,.int .i64 (i:Int),.int .i64 id] w fun r w'=>∃ wv2,fC B w' r wv2 A/\Af w w' B C m n' pt g wv wv2 way:=by
 obtain⟨p,c,rfl,hat⟩:=hK.subs
 obtain⟨b,o,hbl,rfl,mG⟩:=hat (by omega)
 have HAT:=show Hid (∀ W,Below B w W->∃ kv,vG W b (o+i * 5) y kv/\bg W B y kv) from fun W hW=>hy ▸ mG W hW i hi
 have vH:=show Hid _ from hC
 have kN:=show Hid (Ck w B C m n pt g wv way) from h
 obtain⟨pw,cw,rfl⟩:=gY h.row
 clear hat mG hK hC hy
 unfold bL
 generalize x.sub.length=sl at *
 generalize x.k=xk at *
 generalize x.n=xn at *
 generalize x.o=xo at *
 generalize x.f=xf at *
 go_enter Tryz.func84,Tryz.ntmps84
 go_wp2_with (refine aC 27 _ rfl _ rfl rfl ?_)
 intro w1 bx hn1
 have bU:=show Hid (New w w1 bx #[.int .i64 xk,.string xn,.string xo,.int .i64 xf,.slice (some ⟨b,o,none⟩) sl c] 27) from hn1
 have CP:=show Hid _ from h.later hn1.av
 have c2:w1.cell? ⟨C,2,none⟩=some (.slice pw way.length cw):=CP.out.blk.cell 2
 clear hn1 h
 go_wp2_with (refine jM rfl _ rfl _ rfl ?_)
 intro w2 q2 hn2
 have pK:=show Hid (New w1 w2 q2 #[.int .i64 (i:Int)] 3) from hn2
 have nT:=show Hid _ from CP.out.later hn2.av
 have aA:=show Hid (Cl w2 bx _ _) from Cl.new bU.out.blk hn2
 have hcq:w2.cell? ⟨q2,0,none⟩=some (.int .i64 (i:Int)):=Cl.cell hn2.blk 0
 obtain⟨i0,hi0,hz0,hz1,hz2⟩:=info_parts qW
 have hB2:B<=w2.heap.size:=by have:=bU.out.av.size;have:=hn2.av.size;omega
 clear hn2 c2
 go_wp2_with (at_builtin;refine wpList_append_own_at _ rfl (.tmp 14) (.tmp 16) 37 rfl B 3 i0 (.int .i64 0) 1 8 Tryz.underlying37 hi0 hz0 hz1 hz2 rfl (by decide) (.slice pw way.length cw) way.length (dG way) rfl nT.out.row ⟨q2,0,none⟩ 1 1 [.int .i64 (i:Int)] rfl rfl (lN hcq) (by intro u hu;simp at hu;subst hu;rfl) (by unfold maxLen;omega) (by omega) hB2 ?_)
 intro v3 w3 ho3 hg3 _ nU
 have hon:w3.ownsRow B 3 1 v3 (way.length+1) (dG (way ++ [(i:Int)])):=by
  have e:dG (way ++ [(i:Int)])=dG way ++ [.int .i64 (i:Int)]:=by simp[dG]
  rw[e]
  exact ho3
 obtain⟨g3,vI,rfl,hle3,_⟩:=rX hon
 have vJ:Kp (fun k=>k=C\/(Value.slice pw way.length cw).ownBlock=some k) w2 w3:=⟨hg3.os,hg3.tape,hg3.output,hg3.size,fun k hk hne=>hg3.block k hk fun e=>hne (Or.inr e.symm)⟩
 have Ke:Cl w3 C #[pt,.map (some m),.slice pw way.length cw] 108:=(hg3.block C nT.out.blk.lt fun e=>nT.out.wC e.symm).trans nT.out.blk
 have H3:=show Hid (Cl w3 C #[pt,.map (some m),.slice pw way.length cw] 108) from Ke
 have Kg:=show Hid _ from And.intro hon (And.intro vJ nU)
 clear hi0 hz0 hz1 hz2 hcq hg3 ho3 nU hon vJ Ke
 go_wp2_with (refine yS rfl rfl _ _ rfl C rfl (some ⟨g3,0,none⟩) (way.length+1) vI rfl H3.out ?_)
 intro w4 hc4 hk4
 obtain⟨hon,vJ,nU⟩:=Kg.out
 have tJ:Kp (fun k=>k=C\/(Value.slice pw way.length cw).ownBlock=some k) w2 w4:=vJ.trans (jd (S':=fun k=>k=C\/(Value.slice pw way.length cw).ownBlock=some k) hk4 fun k e=>Or.inl e) fun k e=>Or.inl e
 have mW:Ck w4 B C m n pt g (.slice (some ⟨g3,0,none⟩) (way.length+1) vI) (way ++ [(i:Int)]) :=
  nT.out.Iq tJ hc4 (by
   rw[List.length_append,List.length_singleton]
   refine bD hon fun k e => ?_
   obtain⟨_,hlt,cur,hh⟩:=aP hon k e
   refine hk4.block k hlt fun e2 => ?_
   subst e2
   rw[show w3.heap[_]?=_ from H3.out] at hh
   injection hh with hh
   injection hh with _ h3 _
   exact absurd h3 (by decide))
 have oK:Af w w4 B C m n pt g (.slice pw way.length cw) (.slice (some ⟨g3,0,none⟩) (way.length+1) vI) (way ++ [(i:Int)]):=by
  refine⟨mW,fun k e => ?_,?_⟩
  ·rcases nU with e2 | e2
   ·exact Or.inl (e2 ▸ e)
   ·have:k=w2.heap.size:=Option.some.inj (e.symm.trans e2)
    have:=bU.out.av.size
    have:=pK.out.av.size
    exact Or.inr (by omega)
  ·refine((Kp.of_below bU.out.av).trans ((Kp.of_below pK.out.av).trans (jd tJ (S':=Fc C m (Value.slice pw way.length cw)) ?_) fun k e=>Or.inl e) fun k e=>Or.inl e)
   rintro k (e | e)
   ·exact Or.inl e
   ·exact Or.inr (Or.inr e)
 have hx4:Cl w4 bx #[.int .i64 xk,.string xn,.string xo,.int .i64 xf,.slice (some ⟨b,o,none⟩) sl c] 27 :=
  (tJ.block bx aA.out.lt (by
   rintro(e | e)
   ·exact nT.out.nf aA.out (by decide) (by decide) (Or.inl e)
   ·exact nT.out.nf aA.out (by decide) (by decide) (Or.inr (Or.inr e)))).trans aA.out
 have qA:Below B w w4:=kN.out.below oK.kp hB
 obtain⟨kv,h5,iE⟩:=HAT.out w4 qA
 have KT:=show Hid _ from vH.out w4 kv (.slice (some ⟨g3,0,none⟩) (way.length+1) vI) qA iE mW
 obtain⟨kp,kn,kc,rfl⟩:=iE.form
 obtain⟨a0,a1,a2,a3,a4⟩:=h5
 have x4:w4.cell? ⟨bx,4,none⟩=some (.slice (some ⟨b,o,none⟩) sl c):=hx4.cell 4
 have pJ:=show Hid (Af w w4 B C m n pt g (.slice pw way.length cw) (.slice (some ⟨g3,0,none⟩) (way.length+1) vI) (way ++ [(i:Int)])) from oK
 have hii:(i:Int)<(sl:Int):=by omega
 unfold bL at KT
 generalize y.k=yk at *
 generalize y.n=yn at *
 generalize y.o=yo at *
 generalize y.f=yf at *
 clear hc4 hk4 tJ mW oK hx4 qA iE hon vJ nU Kg H3 vH HAT CP nT bU pK aA
 go_wp2_with fail
 refine Calls.mono KT.out ?_
 rintro e w5 ⟨xu,ku,dN⟩
 have Ir:(way ++ [(i:Int)]).length=way.length+1:=by simp
 have yT:w5.ownsRow B 3 1 xu (way.length+1) (dG (way ++ [(i:Int)])):=Ir ▸ dN.ck.row
 obtain⟨g5,jO,rfl,Za,Zb⟩:=rX yT
 have fG:=show Hid _ from dN
 have fU:=show Hid _ from ku
 have c5:w5.cell? ⟨C,2,none⟩=some (.slice (some ⟨g5,0,none⟩) (way.length+1) jO):=dN.ck.blk.cell 2
 have f5:w5.frozen? ⟨C,2,none⟩=false:=dN.ck.blk.fr 2
 have qj:=show Hid (Af w (w5.drew.setCell ⟨C,2,none⟩ (.slice (some ⟨g5,0,none⟩) way.length jO)) B C m n' pt g (.slice pw way.length cw) (.slice (some ⟨g5,0,none⟩) way.length jO) way/\∀ q e wy,Rf w5 B q e wy (.slice (some ⟨g5,0,none⟩) (way.length+1) jO)->Rf (w5.drew.setCell ⟨C,2,none⟩ (.slice (some ⟨g5,0,none⟩) way.length jO)) B q e wy (.slice (some ⟨g5,0,none⟩) way.length jO)) from by
  have tK:Ck w5.drew B C m n' pt g (.slice (some ⟨g5,0,none⟩) (way.length+1) jO) (way ++ [(i:Int)]):=dN.ck.later (Below.refl _ _).drew
  have CQ:dn C w5.drew (w5.drew.setCell ⟨C,2,none⟩ (.slice (some ⟨g5,0,none⟩) way.length jO)):=dn.set (Kp.refl _ _) 2 _
  have vK:Kp (Fc C m (.slice (some ⟨g5,0,none⟩) (way.length+1) jO)) w5.drew (w5.drew.setCell ⟨C,2,none⟩ (.slice (some ⟨g5,0,none⟩) way.length jO)):=jd CQ fun k e=>Or.inl e
  have TG:Ck (w5.drew.setCell ⟨C,2,none⟩ (.slice (some ⟨g5,0,none⟩) way.length jO)) B C m n' pt g (.slice (some ⟨g5,0,none⟩) way.length jO) way:=by
   refine tK.Iq (jd CQ fun k e=>Or.inl e) (heap_setCell_same _ C 2 _ _ _ tK.blk) ?_
   refine bD (Gi tK.row) fun k e => ?_
   obtain⟨_,hlt,cur,hh⟩:=aP tK.row k e
   refine CQ.block k hlt fun e2 => ?_
   subst e2
   exact tK.wC e
  refine⟨?_,fun q e wy hrf => ?_⟩
  ·refine(pJ.out.trans dN).trans ((Af.new dN.ck (Below.refl _ _).drew).trans ⟨TG,fun k e=>Or.inl e,vK⟩)
  ·exact((hrf.later (Below.refl _ _).drew).af tK vK).wv rfl
 clear dN ku yT KT pJ fG a0 a1 a2 a3 a4 x4
 have hb1:(way.length:Int)<=(jO:Int):=by omega
 have hb2:way.length<=jO:=by omega
 cases A with
 | ok f=>
  obtain rfl:=fU.out
  clear fU
  go_wp2_with fail
  go_region
  go_wp2_with fail
  go_ret
  exact⟨_,rfl,qj.out.1⟩
 | no er wy=>
  obtain⟨q,rfl,hrf⟩:=fU.out
  have HR:=show Hid _ from qj.out.2 _ _ _ hrf
  clear fU hrf
  go_wp2_with fail
  go_region
  go_wp2_with fail
  go_ret
  exact⟨_,⟨q,rfl,HR.out⟩,qj.out.1⟩
theorem qY (w:World) {B C m n n':Nat} {pt:Value} {g:Ty.Env} {wv sv:Value} {way:List Int} {x y:Tm} (i:Nat) (hi:i<x.sub.length) (hy:x.sub[i]=y) (h:Ck w B C m n pt g wv way) (hl:way.length+1<=1000000) (hB:B<=w.heap.size) (hK:bg w B x sv) (hx:x.sub.length<=140737488351232) (hn:n<100000000000000) (hn':n'<100000000000000) (s:ByteArray) (hs:s.size<=140737488351232) (f:Int) {A:An}
 (hC:∀ (W:World) (kv wv':Value),Below B w W->bg W B y kv->Ck W B C m (n+1) pt (Ty.upd g s f) wv' (way ++ [(i:Int)])->Calls Tryz.prog 21 #[.pointer (some ⟨C,0,none⟩),bL y kv] W fun r w'=>∃ wv2,gT B w' r wv2 A/\Af W w' B C m n' pt (Ty.upd g s f) wv' wv2 (way ++ [(i:Int)])) :
 Calls Tryz.prog 87 #[.pointer (some ⟨C,0,none⟩),bL x sv,.int .i64 (i:Int),.string s,.int .i64 f] w fun r w'=>∃ wv2,gT B w' r wv2 A/\Af w w' B C m (n'+1) pt g wv wv2 way:=by
 have CS:=show Hid (∀ W,Below B w W->bg W B x sv) from fun W hW=>hK.below hW
 have vH:=show Hid _ from hC
 have kN:=show Hid (Ck w B C m n pt g wv way) from h
 obtain⟨p,nn,c,rfl⟩:=hK.form
 have KG:=show Hid (∀ W,Below w.heap.size w W->Calls Tryz.prog 111 #[.pointer (some ⟨C,0,none⟩),.string s,.int .i64 f] W fun r w'=>∃ b0 b1 b2 b3,r=.returned (.func (.func 151) #[] #[.pointer (some ⟨b0,0,none⟩),.pointer (some ⟨b1,0,none⟩),.pointer (some ⟨b2,0,none⟩),.pointer (some ⟨b3,0,none⟩)])/\Gv w' C b0 b1 b2 b3 (g s).isSome ((g s).getD 0) s/\W.heap.size<=b1/\Ck w' B C m (n+1) pt (Ty.upd g s f) wv way/\Kp (fun k=>k=m) W w') from fun W hW=>CJ W (h.later hW) hn (Nat.le_trans hB hW.size) s hs f
 have KP:=show Hid (∀ W,Below B w W->B<=W.heap.size->Ck W B C m (n+1) pt (Ty.upd g s f) wv way->Calls Tryz.prog 85 #[.pointer (some ⟨C,0,none⟩),bL x (.slice p nn c),.int .i64 (i:Int)] W fun r w'=>∃ wv2,gT B w' r wv2 A/\Af W w' B C m n' pt (Ty.upd g s f) wv wv2 way) from
  fun W hW hbW hc=>nS W i hi hy hc hl hbW (CS.out W hW) hx fun W2 kv wv2 hW2 hk hc2=>vH.out W2 kv wv2 (hW.trans hW2) hk hc2
 clear hK hC h
 unfold bL at KP |-
 generalize x.k=xk at *
 generalize x.n=xn at *
 generalize x.o=xo at *
 generalize x.f=xf at *
 go_enter_defers Tryz.func87,Tryz.ntmps87
 go_wp2_with (refine aC 27 _ rfl _ rfl rfl ?_)
 intro w1 bx hn1
 have bU:=show Hid (New w w1 bx #[.int .i64 xk,.string xn,.string xo,.int .i64 xf,.slice p nn c] 27) from hn1
 clear hn1
 go_wp2_with fail
 refine Calls.mono (KG.out w1 bU.out.av) ?_
 rintro e w2 ⟨b0,b1,b2,b3,rfl,hv2,NI,oL,hk2⟩
 have ck1:=kN.out.later bU.out.av
 have hx2:Cl w2 bx #[.int .i64 xk,.string xn,.string xo,.int .i64 xf,.slice p nn c] 27:=(hk2.block bx (show bx<_ from Cl.lt bU.out.blk) (ck1.nQ bU.out.blk)).trans bU.out.blk
 have vK:Kp (Fc C m wv) w1 w2:=jd hk2 fun k e=>Or.inr (Or.inl e)
 have aT:Af w w2 B C m (n+1) pt (Ty.upd g s f) wv wv way:=(Af.new kN.out bU.out.av).trans ⟨oL,fun k e=>Or.inl e,vK⟩
 have qA:Below B w w2:=kN.out.below aT.kp hB
 have tL:=show Hid _ from KP.out w2 qA (Nat.le_trans hB aT.kp.size) oL
 have aJ:=show Hid _ from aT
 have pQ:=show Hid _ from hv2
 have HG2:=show Hid (¬ Fc C m wv b1) from(by
  rintro(e | e | e)
  ·have:=ck1.blk.lt;omega
  ·have:=ck1.map.lt;omega
  ·have:=(aP ck1.row b1 e).2.1;omega:¬ Fc C m wv b1)
 have x0:w2.cell? ⟨bx,0,none⟩=some (.int .i64 xk):=hx2.cell 0
 have x1:w2.cell? ⟨bx,1,none⟩=some (.string xn):=hx2.cell 1
 have x2:w2.cell? ⟨bx,2,none⟩=some (.string xo):=hx2.cell 2
 have x3:w2.cell? ⟨bx,3,none⟩=some (.int .i64 xf):=hx2.cell 3
 have x4:w2.cell? ⟨bx,4,none⟩=some (.slice p nn c):=hx2.cell 4
 clear KG KP CS vH hx2 vK aT qA hv2 NI hk2 ck1
 go_wp2_with fail
 refine Calls.mono tL.out ?_
 rintro e w3 ⟨rY,hP3,gN⟩
 have hv3:Gv w3 C b0 b1 b2 b3 (g s).isSome ((g s).getD 0) s :=
  ⟨Cl.af pQ.out.c0 oL gN.kp (by decide) (by decide),(gN.kp.block b1 pQ.out.c1.lt HG2.out).trans pQ.out.c1,Cl.af pQ.out.c2 oL gN.kp (by decide) (by decide),Cl.af pQ.out.c3 oL gN.kp (by decide) (by decide)⟩
 have Kh:=show Hid _ from hv3
 have fQ:=show Hid _ from gN
 have dS:=show Hid _ from hP3
 clear tL oL hP3 gN hv3 pQ HG2 x0 x1 x2 x3 x4
 cases A with
 | ok fo=>
  obtain rfl:=dS.out
  clear dS
  go_wp2_with fail
  refine leaves_cons (f:=151) (args:=#[.pointer (some ⟨b0,0,none⟩),.pointer (some ⟨b1,0,none⟩),.pointer (some ⟨b2,0,none⟩),.pointer (some ⟨b3,0,none⟩)]) (by simp) (by simp[go_sem]) ?_
  refine(rW w3 .returning fQ.out.ck hn' hs Kh.out).mono ?_
  rintro e u' w4 ⟨rfl,rfl,mW,hk4⟩
  exact⟨_,results_tmp2 rfl _ _ _,rY,(show(_:Ending)=_ from rfl),aJ.out.trans (fQ.out.trans ⟨mW,fun k e=>Or.inl e,jd hk4 fun k e=>Or.inr (Or.inl e)⟩)⟩
 | no er wy=>
  obtain⟨q,rfl,hrf⟩:=dS.out
  have bq:=show Hid _ from hrf
  clear dS hrf
  go_wp2_with fail
  refine leaves_cons (f:=151) (args:=#[.pointer (some ⟨b0,0,none⟩),.pointer (some ⟨b1,0,none⟩),.pointer (some ⟨b2,0,none⟩),.pointer (some ⟨b3,0,none⟩)]) (by simp) (by simp[go_sem]) ?_
  refine(rW w3 .returning fQ.out.ck hn' hs Kh.out).mono ?_
  rintro e u' w4 ⟨rfl,rfl,mW,hk4⟩
  exact⟨_,results_tmp2 rfl _ _ _,rY,⟨q,rfl,bq.out.af fQ.out.ck (jd hk4 fun k e=>Or.inr (Or.inl e))⟩,aJ.out.trans (fQ.out.trans ⟨mW,fun k e=>Or.inl e,jd hk4 fun k e=>Or.inr (Or.inl e)⟩)⟩
theorem lu (w:World) {B C m n n':Nat} {pt:Value} {g:Ty.Env} {wv sv:Value} {way:List Int} {x y:Tm} (i:Nat) (hi:i<x.sub.length) (hy:x.sub[i]=y) (h:Ck w B C m n pt g wv way) (hl:way.length+1<=1000000) (hB:B<=w.heap.size) (hK:bg w B x sv) (hx:x.sub.length<=140737488351232) (hn:n<100000000000000) (hn':n'<100000000000000) (s:ByteArray) (hs:s.size<=140737488351232) (f:Int) {A:An} (id:Int)
 (hC:∀ (W:World) (kv wv':Value),Below B w W->bg W B y kv->Ck W B C m (n+1) pt (Ty.upd g s f) wv' (way ++ [(i:Int)])->Calls Tryz.prog 22 #[.pointer (some ⟨C,0,none⟩),bL y kv,.int .i64 id] W fun r w'=>∃ wv2,fC B w' r wv2 A/\Af W w' B C m n' pt (Ty.upd g s f) wv' wv2 (way ++ [(i:Int)])) :
 Calls Tryz.prog 88 #[.pointer (some ⟨C,0,none⟩),bL x sv,.int .i64 (i:Int),.string s,.int .i64 f,.int .i64 id] w fun r w'=>∃ wv2,fC B w' r wv2 A/\Af w w' B C m (n'+1) pt g wv wv2 way:=by
 have CS:=show Hid (∀ W,Below B w W->bg W B x sv) from fun W hW=>hK.below hW
 have vH:=show Hid _ from hC
 have kN:=show Hid (Ck w B C m n pt g wv way) from h
 obtain⟨p,nn,c,rfl⟩:=hK.form
 have KG:=show Hid (∀ W,Below w.heap.size w W->Calls Tryz.prog 111 #[.pointer (some ⟨C,0,none⟩),.string s,.int .i64 f] W fun r w'=>∃ b0 b1 b2 b3,r=.returned (.func (.func 151) #[] #[.pointer (some ⟨b0,0,none⟩),.pointer (some ⟨b1,0,none⟩),.pointer (some ⟨b2,0,none⟩),.pointer (some ⟨b3,0,none⟩)])/\Gv w' C b0 b1 b2 b3 (g s).isSome ((g s).getD 0) s/\W.heap.size<=b1/\Ck w' B C m (n+1) pt (Ty.upd g s f) wv way/\Kp (fun k=>k=m) W w') from fun W hW=>CJ W (h.later hW) hn (Nat.le_trans hB hW.size) s hs f
 have KP:=show Hid (∀ W,Below B w W->B<=W.heap.size->Ck W B C m (n+1) pt (Ty.upd g s f) wv way->Calls Tryz.prog 84 #[.pointer (some ⟨C,0,none⟩),bL x (.slice p nn c),.int .i64 (i:Int),.int .i64 id] W fun r w'=>∃ wv2,fC B w' r wv2 A/\Af W w' B C m n' pt (Ty.upd g s f) wv wv2 way) from
  fun W hW hbW hc=>gZ W i hi hy hc hl hbW (CS.out W hW) hx id fun W2 kv wv2 hW2 hk hc2=>vH.out W2 kv wv2 (hW.trans hW2) hk hc2
 clear hK hC h
 unfold bL at KP |-
 generalize x.k=xk at *
 generalize x.n=xn at *
 generalize x.o=xo at *
 generalize x.f=xf at *
 go_enter_defers Tryz.func88,Tryz.ntmps88
 go_wp2_with (refine aC 27 _ rfl _ rfl rfl ?_)
 intro w1 bx hn1
 have bU:=show Hid (New w w1 bx #[.int .i64 xk,.string xn,.string xo,.int .i64 xf,.slice p nn c] 27) from hn1
 clear hn1
 go_wp2_with fail
 refine Calls.mono (KG.out w1 bU.out.av) ?_
 rintro e w2 ⟨b0,b1,b2,b3,rfl,hv2,NI,oL,hk2⟩
 have ck1:=kN.out.later bU.out.av
 have hx2:Cl w2 bx #[.int .i64 xk,.string xn,.string xo,.int .i64 xf,.slice p nn c] 27:=(hk2.block bx (show bx<_ from Cl.lt bU.out.blk) (ck1.nQ bU.out.blk)).trans bU.out.blk
 have vK:Kp (Fc C m wv) w1 w2:=jd hk2 fun k e=>Or.inr (Or.inl e)
 have aT:Af w w2 B C m (n+1) pt (Ty.upd g s f) wv wv way:=(Af.new kN.out bU.out.av).trans ⟨oL,fun k e=>Or.inl e,vK⟩
 have qA:Below B w w2:=kN.out.below aT.kp hB
 have tL:=show Hid _ from KP.out w2 qA (Nat.le_trans hB aT.kp.size) oL
 have aJ:=show Hid _ from aT
 have pQ:=show Hid _ from hv2
 have HG2:=show Hid (¬ Fc C m wv b1) from(by
  rintro(e | e | e)
  ·have:=ck1.blk.lt;omega
  ·have:=ck1.map.lt;omega
  ·have:=(aP ck1.row b1 e).2.1;omega:¬ Fc C m wv b1)
 have x0:w2.cell? ⟨bx,0,none⟩=some (.int .i64 xk):=hx2.cell 0
 have x1:w2.cell? ⟨bx,1,none⟩=some (.string xn):=hx2.cell 1
 have x2:w2.cell? ⟨bx,2,none⟩=some (.string xo):=hx2.cell 2
 have x3:w2.cell? ⟨bx,3,none⟩=some (.int .i64 xf):=hx2.cell 3
 have x4:w2.cell? ⟨bx,4,none⟩=some (.slice p nn c):=hx2.cell 4
 clear KG KP CS vH hx2 vK aT qA hv2 NI hk2 ck1
 go_wp2_with fail
 refine Calls.mono tL.out ?_
 rintro e w3 ⟨rY,hP3,gN⟩
 have hv3:Gv w3 C b0 b1 b2 b3 (g s).isSome ((g s).getD 0) s :=
  ⟨Cl.af pQ.out.c0 oL gN.kp (by decide) (by decide),(gN.kp.block b1 pQ.out.c1.lt HG2.out).trans pQ.out.c1,Cl.af pQ.out.c2 oL gN.kp (by decide) (by decide),Cl.af pQ.out.c3 oL gN.kp (by decide) (by decide)⟩
 have Kh:=show Hid _ from hv3
 have fQ:=show Hid _ from gN
 have dS:=show Hid _ from hP3
 clear tL oL hP3 gN hv3 pQ HG2 x0 x1 x2 x3 x4
 cases A with
 | ok fo=>
  obtain rfl:=dS.out
  clear dS
  go_wp2_with fail
  refine leaves_cons (f:=151) (args:=#[.pointer (some ⟨b0,0,none⟩),.pointer (some ⟨b1,0,none⟩),.pointer (some ⟨b2,0,none⟩),.pointer (some ⟨b3,0,none⟩)]) (by simp) (by simp[go_sem]) ?_
  refine(rW w3 .returning fQ.out.ck hn' hs Kh.out).mono ?_
  rintro e u' w4 ⟨rfl,rfl,mW,hk4⟩
  exact⟨_,results_tmp rfl _ _ _,rY,(show(_:Ending)=_ from rfl),aJ.out.trans (fQ.out.trans ⟨mW,fun k e=>Or.inl e,jd hk4 fun k e=>Or.inr (Or.inl e)⟩)⟩
 | no er wy=>
  obtain⟨q,rfl,hrf⟩:=dS.out
  have bq:=show Hid _ from hrf
  clear dS hrf
  go_wp2_with fail
  refine leaves_cons (f:=151) (args:=#[.pointer (some ⟨b0,0,none⟩),.pointer (some ⟨b1,0,none⟩),.pointer (some ⟨b2,0,none⟩),.pointer (some ⟨b3,0,none⟩)]) (by simp) (by simp[go_sem]) ?_
  refine(rW w3 .returning fQ.out.ck hn' hs Kh.out).mono ?_
  rintro e u' w4 ⟨rfl,rfl,mW,hk4⟩
  exact⟨_,results_tmp rfl _ _ _,rY,⟨q,rfl,bq.out.af fQ.out.ck (jd hk4 fun k e=>Or.inr (Or.inl e))⟩,aJ.out.trans (fQ.out.trans ⟨mW,fun k e=>Or.inl e,jd hk4 fun k e=>Or.inr (Or.inl e)⟩)⟩
def fA (w:World) (B b mt:Nat) (v:Value) (t:List Nd):Prop:=∀ W,Below B w W->Tb W b mt v t
theorem fA.later {w w':World} {B b mt:Nat} {v:Value} {t:List Nd} (h:fA w B b mt v t) (hb:Below B w w'):fA w' B b mt v t:=fun W hW=>h W (hb.trans hW)
theorem fA.here {w:World} {B b mt:Nat} {v:Value} {t:List Nd} (h:fA w B b mt v t):Tb w b mt v t:=h w (Below.refl _ _)
theorem Ck.mono {w:World} {B C m n n':Nat} {pt:Value} {g:Ty.Env} {wv:Value} {way:List Int} (h:Ck w B C m n pt g wv way) (hn:n<=n'):Ck w B C m n' pt g wv way:=⟨h.blk,h.map.mono hn,h.row,h.cB,h.mB⟩
theorem Af.mono {w w':World} {B C m n n':Nat} {pt:Value} {g:Ty.Env} {wv wv':Value} {way:List Int} (h:Af w w' B C m n pt g wv wv' way) (hn:n<=n'):Af w w' B C m n' pt g wv wv' way:=⟨h.ck.mono hn,h.li,h.kp⟩
theorem Af.own {w w' w'':World} {B C m n:Nat} {pt:Value} {g:Ty.Env} {wv wv':Value} {way:List Int} (h:Af w w' B C m n pt g wv wv' way) {br:Nat} {cs:Array Value} {T:TypeId} (hb:Cl w' br cs T) (h1:T≠108) (h2:T≠3) (hk:dn br w' w'') (hge:w.heap.size<=br):Af w w'' B C m n pt g wv wv' way:=by
 have nf:=h.ck.nf hb h1 h2
 refine⟨⟨Cl.kp h.ck.blk hk fun e=>nf (Or.inl e.symm),h.ck.map.keep (hk.block m h.ck.map.lt fun e=>nf (Or.inr (Or.inl e.symm))),bD h.ck.row fun k e=>hk.block k (aP h.ck.row k e).2.1 fun e2=>nf (Or.inr (Or.inr (e2 ▸ e))),h.ck.cB,h.ck.mB⟩,h.li,h.kp.trans hk fun k e=>Or.inr (by omega)⟩
def iJ (B C m b mt:Nat) (v:Value) (t:List Nd) (x:Ty.Tr):Prop :=
 ∀ (w:World) (n:Nat) (g:Ty.Env) (wv sv:Value) (way:List Int),fA w B b mt v t->Ck w B C m n (.pointer (some ⟨b,0,none⟩)) g wv way->B<=w.heap.size->bg w B x.tm sv->Gt x.tm->n+4 * x.size<=90000000000000->way.length+x.size<=900000 ->
  Calls Tryz.prog 21 #[.pointer (some ⟨C,0,none⟩),bL x.tm sv] w fun r w'=>∃ wv2,gT B w' r wv2 (Ty.told t x g way)/\Af w w' B C m (n+4 * x.size) (.pointer (some ⟨b,0,none⟩)) g wv wv2 way
def iX (B C m b mt:Nat) (v:Value) (t:List Nd) (x:Ty.Tr):Prop :=
 ∀ (w:World) (n:Nat) (g:Ty.Env) (wv sv:Value) (way:List Int) (id:Int),fA w B b mt v t->Ck w B C m n (.pointer (some ⟨b,0,none⟩)) g wv way->B<=w.heap.size->bg w B x.tm sv->Gt x.tm->n+4 * x.size<=90000000000000->way.length+x.size<=900000 ->
  Calls Tryz.prog 22 #[.pointer (some ⟨C,0,none⟩),bL x.tm sv,.int .i64 id] w fun r w'=>∃ wv2,fC B w' r wv2 (Ty.aS t x g way id)/\Af w w' B C m (n+4 * x.size) (.pointer (some ⟨b,0,none⟩)) g wv wv2 way
def iK (t:List Nd) (way:List Int) (k:Int) (A:An):Except (Int × List Int) Nd:=match A with
 | .no e wy=>.error (e,wy)
 | .ok f=>if (ay t f).k=k then .ok (ay t f) else .error (130,way)
theorem pz (t:List Nd) (way:List Int) (k:Int) (A:An) (F:Nd->An):(A.bind fun f=>Ty.lK t way k f F)=match iK t way k A with
 | .error e=>.no e.1 e.2
 | .ok d=>F d:=by
 cases A with
 | no e wy=>rfl
 | ok f=>
  show(if (Ty.ay t f).k=k then F (Ty.ay t f) else .no 130 way)=_
  unfold iK
  show(if (ay t f).k=k then F (ay t f) else .no 130 way)=_
  by_cases h:(ay t f).k=k
  ·simp only[if_pos h]
  ·simp only[if_neg h]
def uY (B:Nat) (w':World) (r:Ending) (wv:Value):Except (Int × List Int) Nd->Prop
 | .ok nd=>r=.returned (.tuple #[dY nd,.nilIface])
 | .error e=>∃ q,r=.returned (.tuple #[dY Fm.z,.iface 113 (.pointer (some ⟨q,0,none⟩))])/\Rf w' B q e.1 e.2 wv
theorem Qf.nd {B:Nat} {w w':World} {r:Ending} {way:List Int} {wv:Value} {t:List Nd} {f k:Int} (h:Qf B w w' r way wv (ay t f) k):uY B w' r wv (iK t way k (.ok f))/\Below w.heap.size w w':=by
 obtain⟨h1,h2,h3⟩:=h
 refine⟨?_,h3⟩
 unfold iK
 by_cases hk:(ay t f).k=k
 ·simp only[if_pos hk]
  exact h1 hk
 ·simp only[if_neg hk]
  exact h2 hk
theorem cu (w:World) (q:Nat):(binOp .neq 71 (.iface 113 (.pointer (some ⟨q,0,none⟩))) .nilIface).run Tryz.prog w=.ok (.bool true) w:=by kernel_rfl
theorem cK (w:World):(binOp .neq 71 .nilIface .nilIface).run Tryz.prog w=.ok (.bool false) w:=by kernel_rfl
theorem jq {B C m b mt:Nat} {v:Value} {t:List Nd} {a:Ty.Tr} (hA:iJ B C m b mt v t a) (w:World) {n:Nat} {g:Ty.Env} {wv sv:Value} {way:List Int} {x:Tm} (hi:0<x.sub.length) (hy:x.sub[0]=a.tm) (hT:fA w B b mt v t) (h:Ck w B C m n (.pointer (some ⟨b,0,none⟩)) g wv way) (hB:B<=w.heap.size) (hK:bg w B x sv) (hG:Gt x) (hn:n+4 * a.size<=90000000000000) (hw:way.length+1+a.size<=900000) (k:Int) :
 Calls Tryz.prog 46 #[.pointer (some ⟨C,0,none⟩),bL x sv,.int .i64 k] w fun r w'=>∃ wv2,uY B w' r wv2 (iK t way k (Ty.told t a g (way ++ [0])))/\Af w w' B C m (n+4 * a.size) (.pointer (some ⟨b,0,none⟩)) g wv wv2 way:=by
 have hx:=hG.sub.1
 have XL:Gt a.tm:=hy ▸ hG.sub.2 _ (List.getElem_mem hi)
 have KP:=show Hid (∀ W,Below w.heap.size w W->Calls Tryz.prog 85 #[.pointer (some ⟨C,0,none⟩),bL x sv,.int .i64 ((0:Nat):Int)] W fun r w'=>∃ wv2,gT B w' r wv2 (Ty.told t a g (way ++ [0]))/\Af W w' B C m (n+4 * a.size) (.pointer (some ⟨b,0,none⟩)) g wv wv2 way) from
  fun W hW=>nS W 0 hi hy (h.later hW) (by omega) (Nat.le_trans hB hW.size) (hK.below (hW.mono hB)) hx fun W2 kv wv2 hW2 hk hc2=>hA W2 n g wv2 kv (way ++ [((0:Nat):Int)]) (hT.later ((hW.mono hB).trans hW2)) hc2 (Nat.le_trans hB (Nat.le_trans hW.size hW2.size)) hk XL hn (by simp;omega)
 have kN:=show Hid (Ck w B C m n (.pointer (some ⟨b,0,none⟩)) g wv way) from h
 have HT:=show Hid (fA w B b mt v t) from hT
 obtain⟨p,nn,c,rfl⟩:=hK.form
 clear hK h hT hA XL
 generalize Ty.told t a g (way ++ [0])=A at *
 unfold bL at KP |-
 generalize x.k=xk at *
 generalize x.n=xn at *
 generalize x.o=xo at *
 generalize x.f=xf at *
 have hq1:=cu
 have hq2:=cK
 go_enter Tryz.func46,Tryz.ntmps46
 go_wp2_with (refine aC 27 _ rfl _ rfl rfl ?_)
 intro w1 bx hn1
 have hx1:Cl w1 bx _ _:=hn1.blk
 have bU:=show Hid _ from hn1.av
 clear hn1
 go_wp2_with (refine aN 67 rfl _ dR rfl ?_)
 intro w2 br hn2
 have hx2:=hx1.new hn2
 have x0:w2.cell? ⟨bx,0,none⟩=some (.int .i64 xk):=hx2.cell 0
 have x1:w2.cell? ⟨bx,1,none⟩=some (.string xn):=hx2.cell 1
 have x2:w2.cell? ⟨bx,2,none⟩=some (.string xo):=hx2.cell 2
 have x3:w2.cell? ⟨bx,3,none⟩=some (.int .i64 xf):=hx2.cell 3
 have x4:w2.cell? ⟨bx,4,none⟩=some (.slice p nn c):=hx2.cell 4
 have HB2:=show Hid (Below w.heap.size w w2) from cO bU.out hn2
 have HR2:=show Hid (Cl w2 br #[.int .i64 0,.string ⟨#[]⟩,.int .i64 0,.int .i64 0] 67) from hn2.blk
 have xq:=show Hid (w.heap.size<=br) from Nat.le_trans bU.out.size hn2.ge
 clear hx1 hx2 hn2 bU
 go_wp2_with fail
 refine Calls.mono (KP.out w2 HB2.out) ?_
 rintro e w3 ⟨rY,hP3,gN⟩
 have ck2:=kN.out.later HB2.out
 have HR3:=show Hid _ from Cl.af HR2.out ck2 gN.kp (by decide) (by decide)
 have fQ:=show Hid _ from gN
 have pJ:=show Hid (Af w w3 B C m (n+4 * a.size) (.pointer (some ⟨b,0,none⟩)) g wv rY way) from(Af.new kN.out HB2.out).trans gN
 have dS:=show Hid _ from hP3
 clear x0 x1 x2 x3 x4 hP3 gN KP HR2 ck2
 cases A with
 | no er wy=>
  obtain⟨q,rfl,hrf⟩:=dS.out
  have bq:=show Hid _ from hrf
  clear dS hrf
  go_wp2_with (refine aQ 67 rfl rfl _ _ rfl br rfl _ rfl _ _ HR3.out dx rfl (dH Fm.z) ?_)
  intro w4 hc4 hk4
  go_wp2_with fail
  refine bodyPost_ret (lM (nd:=Fm.z) rfl _ _ br rfl hc4) rfl ?_
  exact⟨rY,⟨q,rfl,bq.out.other HR3.out (by decide) (by decide) hk4⟩,pJ.out.own HR3.out (by decide) (by decide) hk4 xq.out⟩
 | ok f=>
  obtain rfl:=dS.out
  clear dS
  have qA:Below B w w3:=kN.out.below pJ.out.kp hB
  have KJ:=show Hid (Calls Tryz.prog 86 #[.pointer (some ⟨C,0,none⟩),.int .i64 f,.int .i64 k] w3 fun r w'=>Qf B w3 w' r way rY (ay t f) k) from nR w3 pJ.out.ck (HT.out.later qA).here (by omega) (Nat.le_trans hB pJ.out.kp.size) f k
  have HJ:=show Hid (iK t way k (.ok f)=if (ay t f).k=k then .ok (ay t f) else .error (130,way)) from rfl
  obtain⟨nd,hnd⟩:∃ nd,nd=ay t f:=⟨_,rfl⟩
  rw[<- hnd] at KJ HJ
  clear qA hnd
  go_wp2_with fail
  refine Calls.mono KJ.out ?_
  rintro e w4 ⟨TH,hJ2,hb4⟩
  have HR4:=show Hid _ from Cl.later HR3.out hb4
  have bQ:=show Hid _ from pJ.out.then hb4
  by_cases hk:nd.k=k
  ·obtain rfl:=TH hk
   have hJ:=HJ.out
   rw[if_pos hk] at hJ
   have HJ2:=show Hid _ from hJ
   clear TH hJ2 HJ hk KJ hJ
   unfold dY
   go_wp2_with (refine aQ 67 rfl rfl _ _ rfl br rfl _ rfl _ _ HR4.out dx rfl (dH nd) ?_)
   intro w5 jZ hk5
   go_wp2_with fail
   refine bodyPost_ret (lM (nd:=nd) rfl _ _ br rfl jZ) rfl ?_
   exact⟨rY,by rw[HJ2.out];exact(show(_:Ending)=_ from rfl),bQ.out.own HR4.out (by decide) (by decide) hk5 xq.out⟩
  ·obtain⟨q,rfl,hrf⟩:=hJ2 hk
   have hJ:=HJ.out
   rw[if_neg hk] at hJ
   have HJ2:=show Hid _ from hJ
   have bq:=show Hid _ from hrf
   clear TH hJ2 HJ hk KJ hrf hJ
   unfold dY
   go_wp2_with (refine aQ 67 rfl rfl _ _ rfl br rfl _ rfl _ _ HR4.out dx rfl (dH Fm.z) ?_)
   intro w5 jZ hk5
   go_wp2_with fail
   refine bodyPost_ret (lM (nd:=Fm.z) rfl _ _ br rfl jZ) rfl ?_
   exact⟨rY,by rw[HJ2.out];exact⟨q,rfl,bq.out.other HR4.out (by decide) (by decide) hk5⟩,bQ.out.own HR4.out (by decide) (by decide) hk5 xq.out⟩
end Go.Proofs.YtkpbpecikibohaaGreatDoor.Ya

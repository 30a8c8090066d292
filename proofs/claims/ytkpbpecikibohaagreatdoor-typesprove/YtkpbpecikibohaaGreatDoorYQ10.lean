import Derived.Test.YtkpbpecikibohaaGreatDoorYQ09
import Derived.Test.YtkpbpecikibohaaGreatDoorFG3
import Derived.Test.YtkpbpecikibohaaGreatDoorYQB
set_option linter.unusedSimpArgs false
set_option maxRecDepth 100000
set_option maxHeartbeats 8000000
namespace Go.Proofs.YtkpbpecikibohaaGreatDoor.Ya
open Go.RowKit Go.Maps
open Fm (Nd)
open Ty (Tm An Hs env vM)
def uH (l:Hs):Prop:=∀ h ∈ l,h.1.size<=140737488351232/\Fm.i64 h.2
def qC (w:World) (L:Nat) (v:Value) (l:Hs):Prop :=
 ∃ p c,v=.slice p l.length c/\l.length<=5864062014639/\∀ k (hk:k<l.length),∃ b o,b<L/\p=some ⟨b,o,none⟩/\w.cell? ⟨b,o+k * 2,none⟩=some (.string l[k].1)/\w.cell? ⟨b,o+k * 2+1,none⟩=some (.int .i64 l[k].2)
theorem qC.below {w w':World} {L:Nat} {v:Value} {l:Hs} (h:qC w L v l) (hb:Below L w w'):qC w' L v l:=by
 obtain⟨p,c,hv,h1,h2⟩:=h
 refine⟨p,c,hv,h1,fun k hk => ?_⟩
 obtain⟨b,o,hl,hp,hc,hc'⟩:=h2 k hk
 have e:∀ j,w'.cell? ⟨b,j,none⟩=w.cell? ⟨b,j,none⟩:=fun j=>World.cell?_of_block (a:=⟨b,j,none⟩) (hb.block b hl)
 exact⟨b,o,hl,hp,(e _).trans hc,(e _).trans hc'⟩
def TT (w:World) (pv:Value):Prop:=∀ w',Below w.heap.size w w'->Calls Tryz.prog 63 #[pv] w' fun e w''=>e=.returned (.bool false)/\w''=w'
theorem TT.later {w w1:World} {pv:Value} (h:TT w pv) (hb:Below w.heap.size w w1):TT w1 pv:=fun w' hb'=>h w' (hb.trans (hb'.mono hb.size))
theorem Lf (w:World) {b mt:Nat} {v:Value} {t:List Nd} (hT:Tb w b mt v t) :
 Calls Tryz.prog 38 #[.pointer (some ⟨b,0,none⟩)] w fun e w'=>e=.returned (.bool true)/\Below w.heap.size w w':=by
 have K:=show Hid _ from Bb w hT (-1)
 have h2:(q8 t (-1)).2=31:=by
  unfold q8
  rw[if_neg (by simp[Fm.has])]
 clear hT
 go_enter Tryz.func38,Tryz.ntmps38
 go_wp2_with fail
 refine Calls.mono K.out ?_
 rintro e w1 ⟨v',rfl,_,hb⟩
 rw[h2]
 have HB:=show Hid _ from hb
 clear hb K h2
 go_wp2_with fail
 go_ret
 exact⟨rfl,HB.out⟩
theorem Ru (w:World) (pt:Option Addr) (m:Nat):(Instr.build 108 #[(0,.pointer pt),(1,.map (some m))]).run Tryz.prog w=.ok (.agg #[.pointer pt,.map (some m),.slice none 0 0]) w:=by kernel_rfl
theorem N7 (w:World):(Instr.makeMap 106 none).run Tryz.prog w=.ok (.map (some w.heap.size)) (w.alloc (.map #[] 0)):=by kernel_rfl
def TU (w':World) (r:Ending) (B n:Nat) (pt:Value) (g:Ty.Env) (e:Int):Prop :=
 (e≠0->∃ q,r=.returned (.tuple #[.pointer none,.iface 113 (.pointer (some ⟨q,0,none⟩))])/\Rf w' B q e [] (.slice none 0 0)) /\
 (e=0->∃ C m,r=.returned (.tuple #[.pointer (some ⟨C,0,none⟩),.nilIface])/\Ck w' B C m n pt g (.slice none 0 0) [])
theorem Rv (w:World):(zeroValue 46).run Tryz.prog w=.ok (.agg #[.string ⟨#[]⟩,.int .i64 0]) w:=by kernel_rfl
theorem Rx:(Tryz.prog.info? 46).map (·.size)=some 2:=by kernel_rfl
theorem Ry (s:ByteArray) (f:Int):(#[.string s,.int .i64 f]:Array Value).all (·.oneCell')=true:=by simp[Value.oneCell']
structure Lb (w W:World) (B C m bx j:Nat) (pt:Value) (hs:Hs) (l0:List Int) (f0 fv:Value) (xc:Array Value):Prop where
 ck:Ck W B C m j pt (env (hs.take j)) (.slice none 0 0) []
 ro:W.ownsRow B 3 1 fv (l0 ++ (hs.take j).map (·.2)).length (dG (l0 ++ (hs.take j).map (·.2)))
 bx:Cl W bx xc 27
 be:Below B w W
 ge:B<=W.heap.size
 kp:Kp (fun k=>f0.ownBlock=some k) w W
 li:dh w.heap.size f0 fv
theorem Lb.later {w W W':World} {B C m bx j:Nat} {pt:Value} {hs:Hs} {l0:List Int} {f0 fv:Value} {xc:Array Value} (h:Lb w W B C m bx j pt hs l0 f0 fv xc) (hb:Below W.heap.size W W'):Lb w W' B C m bx j pt hs l0 f0 fv xc :=
 ⟨h.ck.later hb,bD h.ro fun k e=>hb.block k (aP h.ro k e).2.1,h.bx.later hb,h.be.trans (hb.mono h.ge),Nat.le_trans h.ge hb.size,h.kp.trans (Kp.of_below (S:=fun _=>False) hb) (fun _ e=>e.elim),h.li⟩
theorem Rz {S:Nat->Prop} {w w':World} (h:Kp S w.drew w'):Kp S w w':=(Kp.of_below (S:=S) (Below.refl w.heap.size w).drew).trans h fun _ e=>Or.inl e
theorem Lb.grow {w W W':World} {B C m bx j n:Nat} {pt:Value} {hs:Hs} {l0:List Int} {f0 fv:Value} {xc:Array Value} {xs:List Value} (h:Lb w W B C m bx j pt hs l0 f0 fv xc) (hr:W.ownsRow B 3 1 fv n xs) (hg:W.grownBy W' fv.ownBlock) :
 Ck W' B C m j pt (env (hs.take j)) (.slice none 0 0) []/\Cl W' bx xc 27/\Below B w W'/\B<=W'.heap.size/\Kp (fun k=>f0.ownBlock=some k) w W'/\∀ {k:Nat} {cs:Array Value} {T:TypeId},Cl W k cs T->T≠3->Cl W' k cs T:=by
 have nm:∀ {k:Nat} {cs:Array Value} {T:TypeId},Cl W k cs T->T≠3->Cl W' k cs T:=fun {k cs T} hc hT=>(hg.block k hc.lt fun e=>by
  obtain⟨_,_,cur,hh⟩:=aP hr k e.symm
  rw[show W.heap[k]?=_ from hc] at hh
  injection hh with hh
  injection hh with _ h3 _
  exact hT h3).trans hc
 refine⟨⟨nm h.ck.blk (by decide),h.ck.map.keep (hg.block m h.ck.map.lt fun e=>by
  obtain⟨_,_,cur,hh⟩:=aP hr m e.symm
  exact h.ck.nQ (show Cl W m cur _ from hh) rfl),⟨rfl,Or.inl ⟨rfl,rfl⟩⟩,h.ck.cB,h.ck.mB⟩,nm h.bx (by decide),h.be.trans ⟨hg.os,hg.tape,hg.output,hg.size,fun k hk=>hg.block k (Nat.lt_of_lt_of_le hk h.ge) fun e => ?_⟩,Nat.le_trans h.ge hg.size,h.kp.trans (S':=fun k=>fv.ownBlock=some k) ⟨hg.os,hg.tape,hg.output,hg.size,fun k hk hne=>hg.block k hk fun e=>hne e.symm⟩ (fun k e=>h.li k e),nm⟩
 have:=(aP hr k e.symm).1
 omega
theorem Bc (w:World) {B b mt:Nat} {v:Value} {t:List Nd} {hv fv sv:Value} {hs:Hs} {l0:List Int} {x:Tm} (hT:fA w B b mt v t) (hH:qC w B hv hs) (hG:uH hs) (hK:bg w B x sv) (hX:Gt x) (hB:B<=w.heap.size) (hF:w.ownsRow B 3 1 fv l0.length (dG l0)) (hl0:l0.length<=1) (hS:uW w) (hSB:1<B) :
 Calls Tryz.prog 19 #[.pointer (some ⟨b,0,none⟩),hv,bL x sv,fv] w fun r w'=>TU w' r B hs.length (.pointer (some ⟨b,0,none⟩)) (env hs) (if (l0 ++ hs.map (·.2)).any (fun i => !Fm.has t i) then 31 else Ty.kM x)/\Kp (fun k=>fv.ownBlock=some k) w w':=by
 have hlen:=hH.choose_spec.choose_spec.2.1
 have HH:=show Hid (∀ W,Below B w W->qC W B hv hs) from fun W hW=>hH.below hW
 have HT:=show Hid (fA w B b mt v t) from hT
 have HGH:=show Hid (uH hs) from hG
 have XU:=show Hid (∀ W,Below B w W->B<=W.heap.size->Calls Tryz.prog 42 #[bL x sv] W fun e w'=>e=.returned (.int .i64 (Ty.kM x))/\Below W.heap.size W w') from fun W hW hb=>Il x W B sv (hK.below hW) hX hb (hS.later hW hSB)
 obtain⟨p,n,c,rfl⟩:=hK.form
 obtain⟨hp,hc,rfl,_,hat⟩:=hH
 have HAT:=show Hid (∀ W,Below B w W->∀ k (hk:k<hs.length),∃ bb o,hp=some ⟨bb,o,none⟩/\W.cell? ⟨bb,o+k * 2,none⟩=some (.string hs[k].1)/\W.cell? ⟨bb,o+k * 2+1,none⟩=some (.int .i64 hs[k].2)) from fun W hW k hk=>by
  obtain⟨_,_,hv2,_,h4⟩:=HH.out W hW
  obtain⟨rfl,_,_⟩:=Value.slice.inj hv2
  obtain⟨bb,o,_,hp2,hc1,hc2⟩:=h4 k hk
  exact⟨bb,o,hp2,hc1,hc2⟩
 generalize iF:(if (l0 ++ hs.map (·.2)).any (fun i => !Fm.has t i) then (31:Int) else Ty.kM x)=ans
 have aI:=show Hid _ from iF
 clear iF hK hX hS hT hG hat HH
 unfold bL at XU |-
 generalize x.k=xk at *
 generalize x.n=xn at *
 generalize x.o=xo at *
 generalize x.f=xf at *
 generalize Ty.kM x=cx at *
 have HF:=show Hid _ from hF
 obtain⟨pf,cf,rfl⟩:=gY hF
 clear hF
 have hbk:=Ru
 have hmk:=N7
 go_enter Tryz.func19,Tryz.ntmps19
 go_wp2_with (refine aC 27 _ rfl _ rfl rfl ?_)
 intro w1 bx hn1
 have bU:=show Hid _ from hn1
 clear hn1
 go_wp2_with (refine aC 108 _ rfl _ rfl rfl ?_)
 intro w3 C aL
 have hm1:Below w1.heap.size w1 (w1.alloc (.map #[] 0)):=ak _ _
 have hb3:Below w.heap.size w w3:=(bU.out.av.trans (hm1.mono bU.out.av.size)).trans (aL.av.mono (Nat.le_trans bU.out.av.size hm1.size))
 have hck:Ck w3 B C w1.heap.size 0 (.pointer (some ⟨b,0,none⟩)) (fun _=>none) (.slice none 0 0) []:=⟨aL.blk,(Q0 w1).later aL.av,⟨rfl,Or.inl ⟨rfl,rfl⟩⟩,by have:=aL.ge;have:=hm1.size;have:=bU.out.av.size;omega,by have:=bU.out.av.size;omega⟩
 have hx3:Cl w3 bx #[.int .i64 xk,.string xn,.string xo,.int .i64 xf,.slice p n c] 27:=((show Cl w1 bx _ _ from bU.out.blk).later hm1).later aL.av
 have XV:=show Hid (Lb w w3 B C w1.heap.size bx 0 (.pointer (some ⟨b,0,none⟩)) hs l0 (.slice pf l0.length cf) (.slice pf l0.length cf) #[.int .i64 xk,.string xn,.string xo,.int .i64 xf,.slice p n c]) from
  ⟨hck,by simpa using bD HF.out fun k e=>hb3.block k (aP HF.out k e).2.1,hx3,hb3.mono hB,Nat.le_trans hB hb3.size,Kp.of_below hb3,fun k e=>Or.inl e⟩
 have KM:=show Hid _ from Lf w3 (HT.out.later (hb3.mono hB)).here
 have HW1:=show Hid (w.heap.size<=w1.heap.size) from bU.out.av.size
 clear aL hm1 hb3 hck hx3 bU HF
 have HMG:=show Hid (w.heap.size<=w1.heap.size) from HW1.out
 clear HW1
 generalize w1.heap.size=m at *
 go_wp2_with fail
 refine Calls.mono KM.out ?_
 rintro e w4 ⟨rfl,hb4⟩
 have XW:=show Hid _ from XV.out.later hb4
 clear hb4 KM XV
 go_wp2_with fail
 go_loopw [3,12,25] (fun fv _ i wr=>∃ j:Nat,j<=hs.length/\i=.int .i64 (j:Int)/\Hid (Lb w wr B C m bx j (.pointer (some ⟨b,0,none⟩)) hs l0 (.slice pf l0.length cf) fv #[.int .i64 xk,.string xn,.string xo,.int .i64 xf,.slice p n c])) (fun _ _ i _=>hs.length - (intOf i).toNat)
 case atStart=>exact⟨0,Nat.zero_le _,rfl,XW⟩
 case round=>
  obtain⟨j,hj,rfl,HL⟩:=hrel
  clear XW
  by_cases hlt:j<hs.length
  ·obtain⟨bb,o,rfl,a0,a1⟩:=HAT.out wr HL.out.be j hlt
   have hgh:=HGH.out _ (List.getElem_mem hlt)
   have htk:hs.take (j+1)=hs.take j ++ [hs[j]]:=(List.take_append_getElem hlt).symm
   have XY:=show Hid _ from htk
   generalize hs[j]=hh at *
   obtain⟨hnm,hfo⟩:=hh
   simp only at a0 a1
   have hji:(j:Int)<(hs.length:Int):=by omega
   have Gy:=show Hid _ from hgh
   clear hgh htk
   go_wp2_with (refine aN 46 rfl _ Rv rfl ?_)
   intro wa bh hna
   go_wp2_with (refine aQ 46 rfl rfl _ _ rfl bh rfl _ rfl _ _ hna.blk Rx rfl (Ry hnm hfo) ?_)
   intro wb hcb hkb
   have hbb:Below wr.heap.size wr wb:=bR hna.av hkb hna.ge
   have XZ:=show Hid (Lb w wb B C m bx j (.pointer (some ⟨b,0,none⟩)) hs l0 (.slice pf l0.length cf) _ #[.int .i64 xk,.string xn,.string xo,.int .i64 xf,.slice p n c]) from HL.out.later hbb
   obtain⟨ll,hll⟩:∃ ll,ll=l0 ++ (hs.take j).map (·.2):=⟨_,rfl⟩
   have hro:=HL.out.ro
   rw[<- hll] at hro
   obtain⟨pg,cg,rfl⟩:=gY hro
   have hlm:ll.length<=6000000000000:=by rw[hll];simp;omega
   have X0:=show Hid _ from hll
   clear hro hll
   have X3:=show Hid (Cl wb bh #[.string hnm,.int .i64 hfo] 46) from hcb
   have q1:wb.cell? ⟨bh,1,none⟩=some (.int .i64 hfo):=hcb.cell 1
   clear hna hcb hkb hbb a0 a1 HL
   go_wp2_with (refine jM rfl _ rfl _ rfl ?_)
   intro wc qc hnc
   have GA:=show Hid (Lb w wc B C m bx j (.pointer (some ⟨b,0,none⟩)) hs l0 (.slice pf l0.length cf) _ #[.int .i64 xk,.string xn,.string xo,.int .i64 xf,.slice p n c]) from XZ.out.later hnc.av
   have X4:=show Hid (Cl wc bh #[.string hnm,.int .i64 hfo] 46) from X3.out.new hnc
   have hcq:wc.cell? ⟨qc,0,none⟩=some (.int .i64 hfo):=Cl.cell hnc.blk 0
   obtain⟨i0,hi0,hz0,hz1,hz2⟩:=info_parts qW
   have Zl:=GA.out.ge
   have IG:=GA.out.ro
   rw[<- X0.out] at IG
   clear hnc q1 XZ X3
   go_wp2_with (at_builtin;refine wpList_append_own_at _ rfl (.tmp 29) (.tmp 32) 37 rfl B 3 i0 (.int .i64 0) 1 8 Tryz.underlying37 hi0 hz0 hz1 hz2 rfl (by decide) (.slice pg ll.length cg) ll.length (dG ll) rfl IG ⟨qc,0,none⟩ 1 1 [.int .i64 hfo] rfl rfl (lN hcq) (by intro u hu;simp at hu;subst hu;rfl) (by unfold maxLen;omega) (by omega) Zl ?_)
   intro v3 wd ho3 hg3 _ nU
   obtain⟨Dh,X5,X6,TV,X7,X8⟩:=GA.out.grow IG hg3
   have hcd:Cl wd bh #[.string hnm,.int .i64 hfo] 46:=X8 X4.out (by decide)
   have II:Ck wd.drew B C m j (.pointer (some ⟨b,0,none⟩)) (env (hs.take j)) (.slice none 0 0) []:=Dh.later (Below.refl _ _).drew
   have d0:wd.cell? ⟨bh,0,none⟩=some (.string hnm):=hcd.cell 0
   have d1:wd.cell? ⟨bh,1,none⟩=some (.int .i64 hfo):=hcd.cell 1
   have e1:wd.cell? ⟨C,1,none⟩=some (.map (some m)):=Dh.blk.cell 1
   obtain⟨we,hup,hMe,hke⟩:=II.map.put (by unfold maxLen;omega) Gy.out.1 hfo
   have TW:∀ {k:Nat} {cs:Array Value} {T:TypeId},Cl wd k cs T->Cl we k cs T:=fun hb=>(hke.block _ (show _<wd.drew.heap.size from hb.lt) (II.nQ hb.drew)).trans hb
   have hle:(l0 ++ (hs.take (j+1)).map (·.2))=ll ++ [hfo]:=by rw[XY.out,X0.out,List.map_append,<- List.append_assoc];rfl
   have HLE:=show Hid (Lb w we B C m bx (j+1) (.pointer (some ⟨b,0,none⟩)) hs l0 (.slice pf l0.length cf) v3 #[.int .i64 xk,.string xn,.string xo,.int .i64 xf,.slice p n c]) from by
    have hr3:wd.drew.ownsRow B 3 1 v3 (ll ++ [hfo]).length (dG (ll ++ [hfo])):=by
     have e:dG (ll ++ [hfo])=dG ll ++ [.int .i64 hfo]:=by simp[dG]
     rw[e,List.length_append]
     exact ho3
    have Zm:env (hs.take (j+1))=Ty.upd (env (hs.take j)) hnm hfo:=by rw[XY.out];exact vM _ _ _
    refine⟨⟨TW Dh.blk,?_,⟨rfl,Or.inl ⟨rfl,rfl⟩⟩,Dh.cB,Dh.mB⟩,?_,TW X5,X6.trans ⟨hke.os,hke.tape,hke.output,hke.size,fun k hk=>hke.block k (Nat.lt_of_lt_of_le hk TV) fun e => ?_⟩,Nat.le_trans TV hke.size,X7.trans (S':=fun k=>k=m) (Rz hke) (fun k e=>Or.inr ?_),fun k e => ?_⟩
    ·rw[Zm]
     exact hMe
    ·rw[hle]
     exact bD hr3 fun k e=>hke.block k (aP hr3 k e).2.1 fun e2=>by
      obtain⟨_,_,cur,hh⟩:=aP hr3 k e
      exact II.nQ (show Cl wd.drew k cur _ from hh) e2
    ·have:=Dh.mB
     omega
    ·subst e
     exact HMG.out
    ·rcases nU with e2 | e2
     ·exact GA.out.li k (e2 ▸ e)
     ·have h1:k=wc.heap.size:=Option.some.inj (e.symm.trans e2)
      have:=GA.out.kp.size
      exact Or.inr (by omega)
   clear ho3 hg3 nU Dh X5 X6 TV X7 X8 hcd II hMe hke TW hle IG GA X4 hcq hi0 hz0 hz1 hz2
   go_wp2_with fail
   go_region
   clear hup d0 d1 e1
   go_wp2_with fail
   go_roundw
   case rel=>exact⟨j+1,by omega,by go_num,HLE⟩
   case measure=>first|(simp[intOf];done)|(simp[intOf];omega)
  ·have qy:j=hs.length:=by omega
   subst qy
   have hji:¬ (hs.length:Int)<(hs.length:Int):=by omega
   obtain⟨hck,hro,hbx,hbe,hge,hkp,_⟩:=HL.out
   rw[List.take_length] at hck hro
   obtain⟨ll,hll⟩:∃ ll,ll=l0 ++ hs.map (·.2):=⟨_,rfl⟩
   have iF:=aI.out
   rw[<- hll] at hro iF
   have hlm:ll.length<=6000000000000:=by rw[hll];simp;omega
   have TY:=show Hid (∀ W,Below wr.heap.size wr W->Ck W B C m hs.length (.pointer (some ⟨b,0,none⟩)) (env hs) (.slice none 0 0) []) from fun W hW=>hck.later hW
   have HX0:=show Hid (∀ W,Below wr.heap.size wr W->Cl W bx #[.int .i64 xk,.string xn,.string xo,.int .i64 xf,.slice p n c] 27) from fun W hW=>hbx.later hW
   have HB0:=show Hid (∀ W,Below wr.heap.size wr W->Below B w W/\B<=W.heap.size) from fun W hW=>⟨hbe.trans (hW.mono hge),Nat.le_trans hge hW.size⟩
   have Di:=show Hid (∀ W,Below wr.heap.size wr W->Kp (fun k=>(Value.slice pf l0.length cf).ownBlock=some k) w W) from fun W hW=>hkp.trans (Kp.of_below (S:=fun _=>False) hW) (fun _ e=>e.elim)
   have hin:=Ku hro (by omega)
   have KL:=show Hid _ from C9 wr hin C (fun i => !Fm.has t i) (fun W hW i=>A8 W (hck.later hW) (HT.out.later (hbe.trans (hW.mono hge))).here i)
   obtain⟨pg,cg,rfl⟩:=gY hro
   generalize ll.any (fun i => !Fm.has t i)=bad at *
   have Qj:=show Hid ((if bad=true then 31 else cx)=ans) from iF
   have hmf:∀ (fn:Fn) (first cap:Array Value) (w:World),(Instr.makeFunc fn first cap).run Tryz.prog w=.ok (.func fn first cap) w:=fun _ _ _ _=>rfl
   clear hck hro hbx hbe hge hin hkp HL HAT hll iF aI
   go_wp2_with fail
   refine Calls.mono KL.out ?_
   rintro e w5 ⟨rfl,hb5⟩
   have jN:=show Hid (Below wr.heap.size wr w5) from hb5
   clear hb5 KL hmf
   cases bad with
   | true=>
    have KR:=show Hid _ from eY w5 (TY.out w5 jN.out) (Nat.zero_le _) (HB0.out w5 jN.out).2 31
    obtain rfl:31=ans:=Qj.out
    clear Qj
    go_wp2_with fail
    refine Calls.mono KR.out ?_
    rintro e w6 ⟨q,rfl,hrf,hb6⟩
    have HE:=show Hid _ from And.intro hrf (Di.out w6 (jN.out.trans (hb6.mono jN.out.size)))
    clear hrf hb6 KR
    go_wp2_with fail
    go_ret2
    exact⟨⟨fun _=>⟨q,rfl,HE.out.1⟩,fun h=>absurd h (by decide)⟩,HE.out.2⟩
   | false=>
    obtain rfl:cx=ans:=Qj.out
    have hx5:=HX0.out w5 jN.out
    have x0:w5.cell? ⟨bx,0,none⟩=some (.int .i64 xk):=hx5.cell 0
    have x1:w5.cell? ⟨bx,1,none⟩=some (.string xn):=hx5.cell 1
    have x2:w5.cell? ⟨bx,2,none⟩=some (.string xo):=hx5.cell 2
    have x3:w5.cell? ⟨bx,3,none⟩=some (.int .i64 xf):=hx5.cell 3
    have x4:w5.cell? ⟨bx,4,none⟩=some (.slice p n c):=hx5.cell 4
    have X9:=show Hid _ from XU.out w5 (HB0.out w5 jN.out).1 (HB0.out w5 jN.out).2
    clear Qj hx5
    go_wp2_with fail
    refine Calls.mono X9.out ?_
    rintro e w6 ⟨rfl,hb6⟩
    have xC:=show Hid (Below wr.heap.size wr w6) from jN.out.trans (hb6.mono jN.out.size)
    clear hb6 X9 x0 x1 x2 x3 x4
    by_cases hcx:cx=0
    ·have hcb:(cx != 0)=false:=by simpa using hcx
     have T9:=show Hid (cx=0) from hcx
     clear hcx
     go_wp2_with fail
     go_ret2
     exact⟨⟨fun h=>absurd T9.out h,fun _=>⟨C,m,rfl,TY.out w6 xC.out⟩⟩,Di.out w6 xC.out⟩
    ·have hcb:(cx != 0)=true:=by simpa using hcx
     have KR:=show Hid _ from eY w6 (TY.out w6 xC.out) (Nat.zero_le _) (HB0.out w6 xC.out).2 cx
     have T9:=show Hid (cx≠0) from hcx
     clear hcx
     go_wp2_with fail
     refine Calls.mono KR.out ?_
     rintro e w7 ⟨q,rfl,hrf,j4⟩
     have HE:=show Hid _ from And.intro hrf (Di.out w7 (xC.out.trans (j4.mono xC.out.size)))
     clear hrf j4 KR
     go_wp2_with fail
     go_ret2
     exact⟨⟨fun _=>⟨q,rfl,HE.out.1⟩,fun h=>absurd h T9.out⟩,HE.out.2⟩
end Go.Proofs.YtkpbpecikibohaaGreatDoor.Ya
namespace Go.Proofs.YtkpbpecikibohaaGreatDoor.Ya
open Go.RowKit Go.Maps
open Fm (Nd)
open Ty (Tm An Hs env fK pR xB)
theorem wQ {w w':World} {B q:Nat} {i:Int} (h:New w w' q #[.int .i64 i] 3) (hb:B<=q):w'.ownsRow B 3 1 (.slice (some ⟨q,0,none⟩) 1 1) [i].length (dG [i]) :=
 ⟨rfl,Or.inr ⟨q,1,_,rfl,hb,h.blk,Nat.le_refl _,by unfold maxLen;show 1<=_;omega,rfl,rfl⟩⟩
theorem lT {w:World} {B B':Nat} {v:Value} {n:Nat} {xs:List Value} (h:w.ownsRow B 3 1 v n xs) (hb:B'<=B):w.ownsRow B' 3 1 v n xs:=by
 refine⟨h.1,?_⟩
 rcases h.2 with h2 | ⟨g,cap,cur,h2,h3,r⟩
 ·exact Or.inl h2
 ·exact Or.inr ⟨g,cap,cur,h2,by omega,r⟩
structure Std (w:World):Prop where
 bO:uW w
 ety:sj w
theorem Std.later {w w':World} (h:Std w) (hb:Below w.heap.size w w'):Std w':=⟨h.bO.later hb h.bO.lt,h.ety.later hb h.ety.lt⟩
def Yb (w w':World) (r:Ending) (a:List Int × Int):Prop:=∃ yv,r=.returned (.tuple #[yv,.int .i64 a.2])/\w'.ownsRow w.heap.size 3 1 yv a.1.length (dG a.1)/\Below w.heap.size w w'
theorem Bd (w:World) {b mt:Nat} {v:Value} {t:List Nd} {hv sv:Value} {hs:Hs} {x:Tm} (hT:Tb w b mt v t) (hH:qC w w.heap.size hv hs) (hG:uH hs) (hK:bg w w.heap.size x sv) (hX:Gt x) (hS:Std w) (id:Int) :
 Calls Tryz.prog 9 #[.pointer (some ⟨b,0,none⟩),hv,bL x sv,.int .i64 id] w fun r w'=>Yb w w' r (pR t hs x id):=by
 have hlen:hs.length<=5864062014639:=hH.choose_spec.choose_spec.2.1
 have Dj:fA w w.heap.size b mt v t:=fun W hW=>hT.later hW
 have KB:=show Hid (∀ W fv,Below w.heap.size w W->W.ownsRow w.heap.size 3 1 fv [id].length (dG [id])->Calls Tryz.prog 19 #[.pointer (some ⟨b,0,none⟩),hv,bL x sv,fv] W fun r w'=>TU w' r w.heap.size hs.length (.pointer (some ⟨b,0,none⟩)) (env hs) (fK t [id] hs x)/\Kp (fun k=>fv.ownBlock=some k) W w') from
  fun W fv hW hf=>Bc W (Dj.later hW) (hH.below hW) hG (hK.below hW) hX hW.size hf (by simp) (hS.bO.later hW hS.bO.lt) hS.bO.lt
 have KC:=show Hid (fK t [id] hs x=0->∀ W C m,Below w.heap.size w W->Ck W w.heap.size C m hs.length (.pointer (some ⟨b,0,none⟩)) (env hs) (.slice none 0 0) []->Calls Tryz.prog 22 #[.pointer (some ⟨C,0,none⟩),bL x sv,.int .i64 id] W fun r w'=>∃ wv2,fC w.heap.size w' r wv2 (Ty.aS t (Ty.jI x) (env hs) [] id)/\∃ n',Af W w' w.heap.size C m n' (.pointer (some ⟨b,0,none⟩)) (env hs) (.slice none 0 0) wv2 []) from fun h0 W C m hW hc=>by
  have hc0:Ty.kM x=0:=by
   unfold fK at h0
   split at h0
   ·cases h0
   ·exact h0
  obtain⟨hx,hsz⟩:=Ty.ze hc0
  have hkk:=hK.below hW
  have Lg:=hX
  rw[hx] at hkk Lg
  have:=(Gl (B:=w.heap.size) (C:=C) (m:=m) (tb:=b) (mt:=mt) (v:=v) (t:=t) (Ty.jI x)).2 W hs.length (env hs) (.slice none 0 0) sv [] id (Dj.later hW) hc hW.size hkk Lg (by omega) (by simp;omega)
  rw[<- hx] at this
  refine this.mono ?_
  rintro r w' ⟨wv2,h1,h2⟩
  exact⟨wv2,h1,_,h2⟩
 have HS:=show Hid (∀ W,Below w.heap.size w W->sj W) from fun W hW=>hS.ety.later hW hS.ety.lt
 have zf:=show Hid (pR t hs x id=if fK t [id] hs x≠0 then ([],fK t [id] hs x) else ((Ty.aS t (Ty.jI x) (env hs) [] id).way,(Ty.aS t (Ty.jI x) (env hs) [] id).err)) from rfl
 obtain⟨p,n,c,rfl⟩:=hK.form
 obtain⟨ph,ch,rfl,_⟩:=hH
 clear hT Dj hG hK hX hS
 generalize pR t hs x id=ans at *
 generalize fK t [id] hs x=ea at *
 generalize Ty.aS t (Ty.jI x) (env hs) [] id=A at *
 unfold bL at KB KC |-
 generalize x.k=xk at *
 generalize x.n=xn at *
 generalize x.o=xo at *
 generalize x.f=xf at *
 have hq1:=cu
 have hq2:=cK
 go_enter Tryz.func9,Tryz.ntmps9
 go_wp2_with (refine aC 27 _ rfl _ rfl rfl ?_)
 intro w1 bx hn1
 have bU:=show Hid (New w w1 bx #[.int .i64 xk,.string xn,.string xo,.int .i64 xf,.slice p n c] 27) from hn1
 have x0:w1.cell? ⟨bx,0,none⟩=some (.int .i64 xk):=Cl.cell hn1.blk 0
 have x1:w1.cell? ⟨bx,1,none⟩=some (.string xn):=Cl.cell hn1.blk 1
 have x2:w1.cell? ⟨bx,2,none⟩=some (.string xo):=Cl.cell hn1.blk 2
 have x3:w1.cell? ⟨bx,3,none⟩=some (.int .i64 xf):=Cl.cell hn1.blk 3
 have x4:w1.cell? ⟨bx,4,none⟩=some (.slice p n c):=Cl.cell hn1.blk 4
 clear hn1
 go_wp2_with (refine jM rfl _ rfl _ rfl ?_)
 intro w2 q2 hn2
 have hb2:=cO bU.out.av hn2
 have K2:=show Hid _ from KB.out w2 _ hb2 (wQ hn2 (by have:=bU.out.av.size;have:=hn2.ge;omega))
 have aA:=show Hid (Cl w2 bx #[.int .i64 xk,.string xn,.string xo,.int .i64 xf,.slice p n c] 27) from Cl.new bU.out.blk hn2
 have HB2:=show Hid (Below w.heap.size w w2) from hb2
 have Yc:=show Hid (w1.heap.size<=q2/\bx<w1.heap.size/\w.heap.size<=w1.heap.size) from⟨hn2.ge,Cl.lt bU.out.blk,bU.out.av.size⟩
 clear hn2 hb2 x0 x1 x2 x3 x4 bU KB
 go_wp2_with fail
 refine Calls.mono K2.out ?_
 rintro e w3 ⟨⟨hP1,hP2⟩,hk3⟩
 have hb3:Below w.heap.size w w3:=HB2.out.trans ⟨hk3.os,hk3.tape,hk3.output,hk3.size,fun k hk=>hk3.block k (Nat.lt_of_lt_of_le hk HB2.out.size) fun e=>by
  have:q2=k:=Option.some.inj e
  have:=Yc.out
  omega⟩
 have ji:=show Hid (Cl w3 bx #[.int .i64 xk,.string xn,.string xo,.int .i64 xf,.slice p n c] 27) from(hk3.block bx (Cl.lt aA.out) fun e=>by
  have:q2=bx:=Option.some.inj e
  have:=Yc.out
  omega).trans aA.out
 have HB3:=show Hid _ from hb3
 by_cases he:ea=0
 ·obtain⟨C,m,rfl,hck⟩:=hP2 he
  have Bf:=show Hid _ from KC.out he w3 C m hb3 hck
  have iF:=zf.out
  rw[if_neg (by simpa using he)] at iF
  have aI:=show Hid _ from iF
  have x0:w3.cell? ⟨bx,0,none⟩=some (.int .i64 xk):=Cl.cell ji.out 0
  have x1:w3.cell? ⟨bx,1,none⟩=some (.string xn):=Cl.cell ji.out 1
  have x2:w3.cell? ⟨bx,2,none⟩=some (.string xo):=Cl.cell ji.out 2
  have x3:w3.cell? ⟨bx,3,none⟩=some (.int .i64 xf):=Cl.cell ji.out 3
  have x4:w3.cell? ⟨bx,4,none⟩=some (.slice p n c):=Cl.cell ji.out 4
  have kN:=show Hid _ from hck
  clear hP1 hP2 hck hk3 hb3 he KC K2 iF zf aA
  go_wp2_with fail
  refine Calls.mono Bf.out ?_
  rintro e w4 ⟨wv4,Lh,n4,oK⟩
  have hb4:Below w.heap.size w w4:=HB3.out.trans (kN.out.below oK.kp HB3.out.size)
  have jc:=show Hid _ from hb4
  have sw:=show Hid _ from Lh
  clear x0 x1 x2 x3 x4 Bf Lh oK hb4
  cases A with
  | ok f=>
   obtain rfl:=sw.out
   have KA:=show Hid _ from Gm w4
   clear sw
   go_wp2_with fail
   refine Calls.mono KA.out ?_
   rintro e w5 ⟨rfl,hb5⟩
   have jN:=show Hid (Below w.heap.size w w5) from jc.out.trans (hb5.mono jc.out.size)
   clear hb5 KA
   go_wp2_with fail
   go_ret2
   rw[aI.out]
   exact⟨_,rfl,⟨rfl,Or.inl ⟨rfl,rfl⟩⟩,jN.out⟩
  | no er wy=>
   obtain⟨q,rfl,hrf⟩:=sw.out
   have KA:=show Hid _ from wP w4 (HS.out w4 jc.out) hrf
   clear sw hrf
   go_wp2_with fail
   refine Calls.mono KA.out ?_
   rintro e w5 ⟨yv,rfl,vN,hb5⟩
   have jN:=show Hid (Below w.heap.size w w5) from jc.out.trans (hb5.mono jc.out.size)
   have zh:=show Hid _ from vN
   clear hb5 KA vN
   go_wp2_with fail
   go_ret2
   rw[aI.out]
   exact⟨_,rfl,zh.out,jN.out⟩
 ·obtain⟨q,rfl,hrf⟩:=hP1 he
  have iF:=zf.out
  rw[if_pos he] at iF
  have aI:=show Hid _ from iF
  have KA:=show Hid _ from wP w3 (HS.out w3 hb3) hrf
  clear hP1 hP2 hk3 hb3 he KC K2 iF zf aA hrf
  go_wp2_with fail
  refine Calls.mono KA.out ?_
  rintro e w5 ⟨yv,rfl,vN,hb5⟩
  have jN:=show Hid (Below w.heap.size w w5) from HB3.out.trans (hb5.mono HB3.out.size)
  have zh:=show Hid _ from vN
  clear hb5 KA vN
  go_wp2_with fail
  go_ret2
  rw[aI.out]
  exact⟨_,rfl,zh.out,jN.out⟩
end Go.Proofs.YtkpbpecikibohaaGreatDoor.Ya

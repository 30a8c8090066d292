import Derived.Test.YtkejippimkjjaaaGreatDoorKG3
import Derived.Test.YtkejippimkjjaaaGreatDoorKG5
import Derived.Test.YtkejippimkjjaaaGreatDoorKG4
import Derived.Test.YtkejippimkjjaaaGreatDoorZG9
set_option linter.unusedSimpArgs false
set_option maxRecDepth 100000
set_option maxHeartbeats 4000000
namespace Go.Proofs.YtkejippimkjjaaaGreatDoor
open Go.RowKit Go.Shelf Go.Maps
open Fm (Nd)
open Bt.Bs (Ok wd)
def xC (base rb pm b m B n:Nat) (d:lK):Prop:=∀ (w:World) (v sv:Value) (kvs:List Value) (R:Rs) (s:SQ),Rn w base rb pm b m v sv kvs B R->Gd R->R.vs<=B->R.st.length<=R.vs->B<=R.vs+n->eD R.t.length s->Ok s.1 ->
 Calls Tryz.prog 15 #[.pointer (some ⟨rb,0,none⟩),.agg (ak s.1 s.2)] w fun e w'=>e=.returned (.tuple #[.int .i64 ((d R s).2.2:Int),.int .i64 (d R s).2.1])/\∃ v' aW bn,Rn w' base rb pm b m v' aW bn B (d R s).1/\gM w w' rb pm b m v sv kvs v' aW bn
structure Gs (B n:Nat) (R:Rs):Prop where
 gd:Gd R
 vs:R.vs<=B
 st:R.st.length<=R.vs
 fu:B<=R.vs+n
 mx:B<=4096
theorem Gs.dec {B n:Nat} {R:Rs} {s:SQ} {d:lK} (h:Gs B n R) (hd:og B d) (hq:eD R.t.length s) (hr:Ok s.1):Gs B n (d R s).1:=by
 have h1:=hd R s h.gd h.vs hq hr
 have h2:=h1.ct.1
 have h3:=h1.vs
 have h4:=h.st
 have h5:=h.fu
 exact⟨h1.gd,h3.2,by omega,by omega,h.mx⟩
structure FL (w0 W:World) (base rb pm b m:Nat) (v0 sv0:Value) (dA:List Value) (v sv:Value) (kvs:List Value) (B:Nat) (R:Rs) (b4 b6:Nat) (x:Stp) (kv pv:Value) (ps:List SQ):Prop where
 rn:Rn W base rb pm b m v sv kvs B R
 af:gM w0 W rb pm b m v0 sv0 dA v sv kvs
 c4:Cl W b4 (bG x kv) 46
 c6:Cl W b6 (bG dX (.slice none 0 0)) 46
 g4:w0.heap.size<=b4
 g6:w0.heap.size<=b6
 ne:b4≠b6
 n4:sv.ownBlock≠some b4
 n6:sv.ownBlock≠some b6
 kd:W.ownsRow w0.heap.size 3 1 kv x.kd.length (fJ x.kd)
 kn:∀ k,kv.ownBlock=some k->¬ Kb kvs k
 sq:eu pv ps W
theorem eu.kp {W W':World} {pv:Value} {l:List SQ} (h:eu pv l W) (hk:∀ (k:Nat) (cs:Array Value),Cl W k cs 27->W'.heap[k]?=W.heap[k]?):eu pv l W':=by
 rcases h with h | ⟨q,h1,h2⟩
 ·exact Or.inl h
 ·exact Or.inr ⟨q,h1,(hk q _ h2).trans h2⟩
theorem dF {W:World} {k:Nat} {cs cs':Array Value} {T T':TypeId} {f f':Nat × Nat} (h:W.heap[k]?=some (.cells cs T f)) (h':W.heap[k]?=some (.cells cs' T' f')):T=T':=by
 rw[h] at h'
 injection h' with h'
 injection h'
section
variable {w0 W W' W2:World} {base rb pm b m:Nat} {v0 sv0 v sv v' aW:Value} {dA kvs bn:List Value} {B:Nat} {R R':Rs} {b4 b6:Nat} {x:Stp} {kv pv:Value} {ps:List SQ}
theorem FL.call (h:FL w0 W base rb pm b m v0 sv0 dA v sv kvs B R b4 b6 x kv pv ps) (hr:Rn W' base rb pm b m v' aW bn B R') (ha:gM W W' rb pm b m v sv kvs v' aW bn):FL w0 W' base rb pm b m v0 sv0 dA v' aW bn B R' b4 b6 x kv pv ps:=by
 have n4:=h.rn.other h.c4 (by decide) (by decide) (by decide) (Or.inr h.n4)
 have n6:=h.rn.other h.c6 (by decide) (by decide) (by decide) (Or.inr h.n6)
 refine⟨hr,h.af.trans ha,ha.cl h.c4 n4,ha.cl h.c6 n6,h.g4,h.g6,h.ne,fun e => ?_,fun e => ?_,bV h.kd fun k e => ?_,fun k e hb => ?_,h.sq.kp fun k cs hc=>ha.kp.block k hc.lt (h.rn.other hc (by decide) (by decide) (by decide) (Or.inl (by decide)))⟩
 ·rcases ha.ls b4 e with e | e
  ·exact h.n4 e
  ·have:=h.c4.lt;omega
 ·rcases ha.ls b6 e with e | e
  ·exact h.n6 e
  ·have:=h.c6.lt;omega
 ·obtain⟨_,h2,cur,hc⟩:=aT h.kd k e
  exact ha.kp.block k h2 (h.rn.other hc (by decide) (by decide) (by decide) (Or.inl (by decide)))
 ·rcases ha.lk k hb with h1 | h1
  ·exact h.kn k e h1
  ·have:=(aT h.kd k e).2.1;omega
theorem FL.later (h:FL w0 W base rb pm b m v0 sv0 dA v sv kvs B R b4 b6 x kv pv ps) (hb:Below W.heap.size W W'):FL w0 W' base rb pm b m v0 sv0 dA v sv kvs B R b4 b6 x kv pv ps:=h.call (h.rn.later hb) (gM.of_below hb)
theorem FL.uF (h:FL w0 W base rb pm b m v0 sv0 dA v sv kvs B R b4 b6 x kv pv ps) {x':Stp} {kv':Value} (hc:Cl W' b4 (bG x' kv') 46) (hk:dY b4 W W') (hd:W.ownsRow w0.heap.size 3 1 kv' x'.kd.length (fJ x'.kd)) (hkn:∀ k,kv'.ownBlock=some k->¬ Kb kvs k) (hG:0<w0.heap.size):FL w0 W' base rb pm b m v0 sv0 dA v sv kvs B R b4 b6 x' kv' pv ps:=by
 have n4:=h.rn.other h.c4 (by decide) (by decide) (by decide) (Or.inr h.n4)
 have e4:=h.g4
 refine⟨h.rn.own n4 (h.rn.dG.wJ h.c4 (by decide)) (by omega) hk,⟨h.af.lv,h.af.ls,h.af.lk,h.af.kp.trans (S':=fun k=>k=b4) hk (fun i hi=>Or.inr (by omega))⟩,hc,(hk.block b6 h.c6.lt (fun e=>h.ne e.symm)).trans h.c6,h.g4,h.g6,h.ne,h.n4,h.n6,bV hd fun k e => ?_,hkn,h.sq.kp fun k cs hq=>hk.block k hq.lt (fun e => ?_)⟩
 ·obtain⟨_,h2,cur,hcc⟩:=aT hd k e
  refine hk.block k h2 (fun e2 => ?_)
  subst e2
  exact absurd (dF hcc h.c4) (by decide)
 ·subst e
  exact absurd (dF hq h.c4) (by decide)
theorem FL.G9 (h:FL w0 W base rb pm b m v0 sv0 dA v sv kvs B R b4 b6 x kv pv ps) (hg:W.grownBy W' kv.ownBlock):Cl W' b4 (bG x kv) 46:=(hg.block b4 h.c4.lt (fun e=>by
 obtain⟨_,_,cur,hc⟩:=aT h.kd b4 e.symm
 exact absurd (dF hc h.c4) (by decide))).trans h.c4
theorem FL.SN (h:FL w0 W base rb pm b m v0 sv0 dA v sv kvs B R b4 b6 x kv pv ps) (hg:W.grownBy W' kv.ownBlock) {x':Stp} {kv':Value} (ho:W'.ownsRow w0.heap.size 3 1 kv' x'.kd.length (fJ x'.kd)) (hat:kv'.ownBlock=kv.ownBlock\/kv'.ownBlock=some W.heap.size) (hc:Cl W2 b4 (bG x' kv') 46) (hk:dY b4 W' W2) (hG:0<w0.heap.size):FL w0 W2 base rb pm b m v0 sv0 dA v sv kvs B R b4 b6 x' kv' pv ps:=by
 have e4:=h.g4
 have n4:=h.rn.other h.c4 (by decide) (by decide) (by decide) (Or.inr h.n4)
 have hS:∀ k,kv.ownBlock=some k->w0.heap.size<=k/\∃ cur,W.heap[k]?=some (.cells cur 3 (0,0)):=fun k e=>⟨(aT h.kd k e).1,(aT h.kd k e).2.2⟩
 have hk1:Kp (fun k=>kv.ownBlock=some k\/k=b4) W W2:=by
  refine Kp.trans (S:=fun k=>kv.ownBlock=some k\/k=b4) (S':=fun k=>k=b4) ⟨hg.os,hg.tape,hg.output,hg.size,fun k hk hn=>hg.block k hk (fun e=>hn (Or.inl e.symm))⟩ hk (fun i hi=>Or.inl (Or.inr hi))
 have hn:∀ k,pO rb pm b m v sv k->¬ (kv.ownBlock=some k\/k=b4):=fun k hf e=>by
  rcases e with e | e
  ·obtain⟨_,cur,hc⟩:=hS k e
   exact h.rn.other hc (by decide) (by decide) (by decide) (Or.inl (by decide)) hf
  ·exact n4 (e ▸ hf)
 have hkb:∀ k,Kb kvs k->¬ (kv.ownBlock=some k\/k=b4):=fun k hb e=>by
  rcases e with e | e
  ·exact h.kn k e hb
  ·exact h.rn.dG.wJ h.c4 (by decide) (e ▸ hb)
 refine⟨h.rn.keep hk1.size (fun k hf=>hk1.block k (h.rn.foot k hf) (hn k hf)) (fun k hb=>hk1.block k (h.rn.dG.kb hb).2.1 (hkb k hb)) (yw h.rn.tz hk1 (fun e => ?_)),⟨h.af.lv,h.af.ls,h.af.lk,h.af.kp.trans hk1 (fun i hi=>Or.inr ?_)⟩,hc,(hk1.block b6 h.c6.lt (fun e => ?_)).trans h.c6,h.g4,h.g6,h.ne,h.n4,h.n6,bV ho fun k e => ?_,fun k e hb => ?_,h.sq.kp fun k cs hq=>hk1.block k hq.lt (fun e => ?_)⟩
 ·rcases e with e | e
  ·have:=(hS _ e).1;omega
  ·omega
 ·rcases hi with e | e
  ·exact(hS _ e).1
  ·omega
 ·rcases e with e | e
  ·obtain⟨_,cur,h2⟩:=hS _ e
   exact absurd (dF h2 h.c6) (by decide)
  ·exact h.ne e.symm
 ·obtain⟨_,h2,cur,h3⟩:=aT ho k e
  refine hk.block k h2 (fun e2 => ?_)
  subst e2
  exact absurd (dF h3 (h.G9 hg)) (by decide)
 ·rcases hat with h1 | h1
  ·exact h.kn k (h1 ▸ e) hb
  ·rw[h1] at e
   cases e
   have:=(h.rn.dG.kb hb).2.1
   omega
 ·rcases e with e | e
  ·obtain⟨_,cur,h2⟩:=hS _ e
   exact absurd (dF h2 hq) (by decide)
  ·subst e
   exact absurd (dF hq h.c4) (by decide)
theorem FL.uG (h:FL w0 W base rb pm b m v0 sv0 dA v sv kvs B R b4 b6 x kv pv ps) (hk:dY b6 W W') (hG:0<w0.heap.size):Rn W' base rb pm b m v sv kvs B R/\gM w0 W' rb pm b m v0 sv0 dA v sv kvs/\W'.ownsRow w0.heap.size 3 1 kv x.kd.length (fJ x.kd):=by
 have n6:=h.rn.other h.c6 (by decide) (by decide) (by decide) (Or.inr h.n6)
 have e6:=h.g6
 refine⟨h.rn.own n6 (h.rn.dG.wJ h.c6 (by decide)) (by omega) hk,⟨h.af.lv,h.af.ls,h.af.lk,h.af.kp.trans (S':=fun k=>k=b6) hk (fun i hi=>Or.inr (by omega))⟩,bV h.kd fun k e => ?_⟩
 obtain⟨_,h2,cur,hcc⟩:=aT h.kd k e
 refine hk.block k h2 (fun e2 => ?_)
 subst e2
 exact absurd (dF hcc h.c6) (by decide)
end
theorem yx:(Tryz.prog.info? 3).map (fun i=>(i.zero,i.size,i.bytes))=some (some (.int .i64 0),1,8):=by kernel_rfl
theorem tJ (l:List Nat) (k:Nat):fJ (l ++ [k])=fJ l ++ [.int .i64 (k:Int)]:=by simp[fJ]
theorem CG {w w':World} {base q:Nat} {k:Nat} (h:New w w' q #[.int .i64 (k:Int)] 3) (hb:base<=q):w'.ownsRow base 3 1 (.slice (some ⟨q,0,none⟩) 1 1) [k].length (fJ [k]):=⟨rfl,Or.inr ⟨q,1,_,rfl,hb,h.blk,Nat.le_refl _,by unfold maxLen;show 1<=_;omega,rfl,rfl⟩⟩
theorem mY {w:World} {base:Nat} {e:TypeId}:w.ownsRow base e 1 (.slice none 0 0) ([]:List Nat).length (fJ []):=⟨rfl,Or.inl ⟨rfl,rfl⟩⟩
theorem EY {base rb pm b m B n:Nat} {d:lK} (hD:xC base rb pm b m B n d) (hd:og B d) (w:World) {v sv:Value} {kvs:List Value} {R:Rs} (hR:Rn w base rb pm b m v sv kvs B R) (hG:Gs B n R) {x:Stp} (hx:Ok x.s.1) (hk:x.kd=[]) {ps:List SQ} {pv:Value} (hps:eu pv ps w) (hrg:∀ p ∈ ps,eD R.t.length p/\Ok p.1) (hpl:ps.length<=1000) :
 Calls Tryz.prog 52 #[.pointer (some ⟨rb,0,none⟩),.agg (bG x (.slice none 0 0)),pv] w fun e w'=>∃ kv,e=.returned (.tuple #[.agg (bG (eO d R x ps).2.2 kv),.int .i64 (eO d R x ps).2.1])/\w'.ownsRow w.heap.size 3 1 kv (eO d R x ps).2.2.kd.length (fJ (eO d R x ps).2.2.kd)/\∃ v' aW bn,(∀ k,kv.ownBlock=some k->¬ Kb bn k)/\Rn w' base rb pm b m v' aW bn B (eO d R x ps).1/\gM w w' rb pm b m v sv kvs v' aW bn:=by
 obtain⟨pp,pc,rfl⟩:=hps.form
 have HG:=show Hid (0<w.heap.size) from Bt.pW hR.tz
 have HD:=show Hid (xC base rb pm b m B n d) from hD
 have pQ:=show Hid (og B d) from hd
 have HL:=show Hid (∀ s ∈ ps,s.1.length=16) from fun s hs=>(hrg s hs).2.1
 have hx16:=hx.1
 obtain⟨P,hP⟩:∃ P,P=eO d R x ps:=⟨_,rfl⟩
 rw[<- hP]
 have HP:=show Hid (P=eO d R x ps) from hP
 clear hP
 go_enter Tryz.func52,Tryz.ntmps52
 go_wp2_with (refine aI 46 _ rfl _ rfl rfl ?_)
 intro w1 b4 hn1
 go_wp2_with (refine aF 46 rfl _ oH rfl ?_)
 intro w2 b6 hn2
 have H2:=show Hid (FL w w2 base rb pm b m v sv kvs v sv kvs B R b4 b6 x (.slice none 0 0) (.slice pp ps.length pc) ps) from(by
  have e1:=hn1.ge;have e2:=hn1.up;have e3:=hn2.ge;have e4:=hn2.eq;have e5:=hn1.eq
  have hb:=aS hn1.au hn2
  refine⟨hR.later hb,gM.of_below hb,Cl.new hn1.blk hn2,hn2.blk,by omega,by omega,by omega,fun e => ?_,fun e => ?_,⟨by rw[hk];rfl,Or.inl ⟨rfl,by rw[hk];rfl⟩⟩,fun k e=>(by cases e),hps.later hb⟩
  ·have:=(hR.dG.blk e).2.1;omega
  ·have:=(hR.dG.blk e).2.1;omega)
 clear hn1 hn2 hR hps
 have yA:=show Hid (∀ p ∈ ps,eD R.t.length p/\Ok p.1) from hrg
 have mH:=show Hid (Gs B n R) from hG
 clear hG hrg hD hd
 go_wp2_with fail
 go_loopw [14] (fun iv wr=>∃ (i:Nat) (R':Rs) (x':Stp) (kv v' aW:Value) (bn:List Value),i<=ps.length/\iv=.int .i64 (i:Int)/\Hid (P=eO d R' x' (ps.drop i))/\Hid (FL w wr base rb pm b m v sv kvs v' aW bn B R' b4 b6 x' kv (.slice pp ps.length pc) ps)/\Hid (Gs B n R')/\Hid (Ext R.t R'.t)/\x'.s.1.length=16/\Hid (x'.kd.length=i)) (fun iv _=>ps.length - (intOf iv).toNat)
 case atStart=>exact⟨0,R,x,_,_,_,_,by omega,rfl,HP,H2,mH,Ext.refl _,hx16,show x.kd.length=0 from by rw[hk];rfl⟩
 case round=>
  obtain⟨i,R',x',kv,v',aW,bn,hi,rfl,lN,HF,HG2,HE,hx2,CJ⟩:=hrel
  clear HP H2 mH
  by_cases hlt:i<ps.length
  ·have hil:(i:Int)<(ps.length:Int):=by omega
   obtain⟨q,rfl,hin⟩:=HF.out.sq.at HL.out hlt
   have ku:=yA.out _ (List.getElem_mem hlt)
   have rR:=ku.2.1
   have rC:=show Hid _ from hin
   have sF:=show Hid (eD R'.t.length ps[i]/\Ok ps[i].1) from⟨jr HE.out ku.1,ku.2⟩
   have hp3:P=eO d R' x' (ps[i] :: ps.drop (i+1)):=by rw[lN.out,List.drop_eq_getElem_cons hlt]
   have fE:=show Hid (P=eO d R' x' (ps[i] :: ps.drop (i+1))) from hp3
   clear hin ku lN hp3
   generalize ps[i]=p at *
   go_wp2_with (first|(refine kL _ rfl _ rfl q _ rfl rC.out rR ?_)|(refine aF 27 rfl _ PU rfl ?_))
   intro w3 b9 aM
   go_wp2_with (refine aK 27 rfl rfl _ _ rfl b9 rfl (ak p.1 p.2) rfl (ak Bt.Bs.zero 0) 27 aM.blk (by rw[jG,bI rR]) (by rw[bI rR];rfl) (fA _ _) ?_)
   intro w4 uH nE
   have hb4:Below wr.heap.size wr w4:=aP aM.au nE aM.ge
   have H4:=show Hid (FL w w4 base rb pm b m v sv kvs v' aW bn B R' b4 b6 x' kv (.slice (some ⟨q,0,none⟩) ps.length pc) ps/\aX w4 b9 p.1 p.2) from⟨HF.out.later hb4,uH⟩
   clear HF aM uH nE hb4 rC
   have KD:=show Hid _ from HD.out w4 v' aW bn R' p H4.out.1.rn HG2.out.gd HG2.out.vs HG2.out.st HG2.out.fu sF.out.1 sF.out.2
   have HS:=show Hid (qK B R' p (d R' p)/\Gs B n (d R' p).1) from⟨pQ.out R' p HG2.out.gd HG2.out.vs sF.out.1 sF.out.2,HG2.out.dec pQ.out sF.out.1 sF.out.2⟩
   have hfo:eO d R' x' (p :: ps.drop (i+1))=if (d R' p).2.1≠0 then ((d R' p).1,(d R' p).2.1,dX)
  else if ((d R' p).1.st.getD (d R' p).2.2 dX).pv=false then ((d R' p).1,0,{ x' with kd:=[(d R' p).2.2] })
  else eO d (d R' p).1 { x' with kd:=x'.kd ++ [(d R' p).2.2] } (ps.drop (i+1)):=rfl
   rw[hfo] at fE
   clear hfo
   generalize hq:d R' p=qd at *
   clear hq
   go_wp2_with (refine aJ _ _ rfl b9 rfl H4.out.2 rR rfl ?_)
   refine Calls.mono KD.out ?_
   rintro e w5 ⟨rfl,v5,wL,kM,jT,iV⟩
   have H5:=show Hid (FL w w5 base rb pm b m v sv kvs v5 wL kM B qd.1 b4 b6 x' kv (.slice (some ⟨q,0,none⟩) ps.length pc) ps) from H4.out.1.call jT iV
   clear jT iV H4 KD
   by_cases he:qd.2.1=0
   ·have sG:(qd.2.1 != 0)=false:=by rw[he];rfl
    obtain⟨y,hy,hys,zY⟩:=HS.out.1.at he
    obtain⟨gs,cs,rfl,hpc⟩:=H5.out.rn.dG.pv hy
    have MQ:=(List.getElem?_eq_some_iff.1 hy).1
    have c3:=H5.out.rn.run.cell 3
    have GJ:(qd.2.2:Int)<(qd.1.st.length:Int):=by omega
    have hgd:=getD_some hy dX
    rw[if_neg (by rw[he];simp),hgd] at fE
    simp only[List.getElem?_toArray,List.getElem?_cons_succ,List.getElem?_cons_zero] at c3
    clear hgd
    cases hpv:y.pv with
    | false=>
     rw[hpv] at hpc fE
     rw[if_pos rfl] at fE
     clear hpv zY
     go_wp2_with (refine l6 rfl _ rfl _ rfl ?_)
     intro w6 q6 fQ
     have hsz:=H5.out.af.kp.size
     have hge:=fQ.ge
     have H6:=show Hid _ from H5.out.later fQ.au
     have EZ:=show Hid (w6.ownsRow w.heap.size 3 1 (.slice (some ⟨q6,0,none⟩) 1 1) [qd.2.2].length (fJ [qd.2.2])) from CG fQ (by omega)
     have Vh:=show Hid (∀ k,(Value.slice (some ⟨q6,0,none⟩) 1 1).ownBlock=some k->¬ Kb kM k) from fun k e hb=>by
      obtain rfl:q6=k:=Option.some.inj e
      have:=(H5.out.rn.dG.kb hb).2.1
      omega
     clear fQ hge hsz H5 c3 hpc
     go_wp2_with (refine tF rfl rfl _ _ rfl b4 rfl (some ⟨q6,0,none⟩) 1 1 rfl hx2 H6.out.c4 [qd.2.2] ?_)
     intro w7 jR fF
     have H7:=show Hid _ from H6.out.uF (x':={ x' with kd:=[qd.2.2] }) jR fF EZ.out Vh.out HG.out
     clear jR fF H6 EZ
     go_wp2_with (first|(refine rQ _ rfl b4 rfl (s:={ x' with kd:=[qd.2.2] }) hx2 H7.out.c4 rfl ?_)|(refine fZ rfl rfl _ _ rfl b6 rfl (s:={ x' with kd:=[qd.2.2] }) hx2 rfl rfl rfl H7.out.c6 ?_))
     intro w8 hc8 bD
     obtain⟨gU,nU,wM⟩:=H7.out.uG bD HG.out
     obtain rfl:=fE.out
     clear fE H7
     go_wp2_with fail
     refine bodyPost_ret (gI rfl _ _ b6 rfl hc8 (dW (x:={ x' with kd:=[qd.2.2] }) hx2 _)) rfl ?_
     exact⟨_,rfl,wM,v5,_,kM,Vh.out,gU,nU⟩
    | true=>
     rw[hpv] at hpc fE
     rw[if_neg (by simp)] at fE
     clear hpv zY
     have c20:=(zX hx2 H5.out.c4).1
     go_wp2_with (refine l6 rfl _ rfl _ rfl ?_)
     intro w6 q6 fQ
     have H6:=show Hid _ from H5.out.later fQ.au
     have hcq:w6.cell? ⟨q6,0,none⟩=some (.int .i64 (qd.2.2:Int)):=Cl.cell fQ.blk 0
     obtain⟨i0,hi0,hz0,hz1,hz2⟩:=info_parts yx
     have qN:=CJ.out
     have hsz:=H6.out.af.kp.size
     clear fQ H5 c3 hpc c20
     go_wp2_with (at_builtin;refine wpList_append_own_at _ rfl (.tmp 42) (.tmp 44) 44 rfl w.heap.size 3 i0 (.int .i64 0) 1 8 Tryz.underlying44 hi0 hz0 hz1 hz2 rfl (by decide) kv x'.kd.length (fJ x'.kd) rfl H6.out.kd ⟨q6,0,none⟩ 1 1 [.int .i64 (qd.2.2:Int)] rfl rfl (oG hcq) (by intro u hu;simp at hu;subst hu;rfl) (by unfold maxLen;omega) (by omega) hsz ?_)
     intro uZ w7 kC rD _ mZ
     have hln:x'.kd.length+1=(x'.kd ++ [qd.2.2]).length:=by simp
     have yB:=show Hid (w7.ownsRow w.heap.size 3 1 uZ (x'.kd ++ [qd.2.2]).length (fJ (x'.kd ++ [qd.2.2]))/\w6.grownBy w7 kv.ownBlock/\(uZ.ownBlock=kv.ownBlock\/uZ.ownBlock=some w6.heap.size)) from⟨by rw[tJ,<- hln,qN];exact kC,rD,mZ⟩
     have C7:=show Hid _ from H6.out.G9 rD
     obtain⟨p7,n7,c7,rfl⟩:∃ p n c,uZ=.slice p n c:=by
      rcases kC.2 with ⟨h1,_⟩ | ⟨g,cap,cur,h1,_⟩
      ·exact⟨_,_,_,h1⟩
      ·exact⟨_,_,_,h1⟩
     clear kC rD mZ hcq hi0 hz0 hz1 hz2 hln
     go_wp2_with (refine tF rfl rfl _ _ rfl b4 rfl p7 n7 c7 rfl hx2 C7.out (x'.kd ++ [qd.2.2]) ?_)
     intro w8 hc8 bD
     have H8:=show Hid _ from H6.out.SN yB.out.2.1 (x':={ x' with kd:=x'.kd ++ [qd.2.2] }) yB.out.1 yB.out.2.2 hc8 bD HG.out
     have CO:=show Hid (Ext R.t qd.1.t) from HE.out.trans HS.out.1.ext
     have CP:=show Hid (Gs B n qd.1) from HS.out.2
     clear hc8 bD H6 yB C7 HE HG2 HS
     go_wp2_with fail
     go_roundw
     case rel=>exact⟨i+1,_,_,_,_,_,_,by omega,by go_num,fE,H8,CP,CO,hx2,show(x'.kd ++ [qd.2.2]).length=i+1 from by rw[List.length_append,qN];rfl⟩
     case measure=>first|(simp[intOf];done)|(simp[intOf];omega)
   ·have sG:(qd.2.1 != 0)=true:=by simpa using he
    rw[if_pos he] at fE
    go_wp2_with (first|(refine nT rfl rfl ?_)|(refine fZ rfl rfl _ _ rfl b6 rfl (s:=dX) rfl rfl rfl rfl H5.out.c6 ?_))
    intro w8 hc8 bD
    obtain⟨gU,nU,_⟩:=H5.out.uG bD HG.out
    obtain rfl:=fE.out
    clear fE H5
    go_wp2_with fail
    refine bodyPost_ret (gI rfl _ _ b6 rfl hc8 (dW (x:=dX) rfl _)) rfl ?_
    exact⟨_,rfl,mY,v5,_,kM,fun k e=>(by cases e),gU,nU⟩
  ·have hil:¬ (i:Int)<(ps.length:Int):=by omega
   have hp3:P=(R',0,{ x' with pv:=true }):=by rw[lN.out,List.drop_of_length_le (by omega)];rfl
   clear lN
   go_wp2_with (refine G8 rfl rfl _ _ rfl b4 rfl true rfl hx2 HF.out.c4 ?_)
   intro w7 jR fF
   have H7:=show Hid _ from HF.out.uF (x':={ x' with pv:=true }) jR fF HF.out.kd HF.out.kn HG.out
   clear jR fF HF
   go_wp2_with (first|(refine rQ _ rfl b4 rfl (s:={ x' with pv:=true }) hx2 H7.out.c4 rfl ?_)|(refine fZ rfl rfl _ _ rfl b6 rfl (s:={ x' with pv:=true }) hx2 (lY H7.out.kd) rfl rfl H7.out.c6 ?_))
   intro w8 hc8 bD
   obtain⟨gU,nU,wM⟩:=H7.out.uG bD HG.out
   have SS:=H7.out.kn
   subst hp3
   clear H7
   go_wp2_with fail
   refine bodyPost_ret (gI rfl _ _ b6 rfl hc8 (dW (x:={ x' with pv:=true }) hx2 _)) rfl ?_
   exact⟨_,rfl,wM,v',_,bn,SS,gU,nU⟩
def He (w:World) (base rb pm b m:Nat) (v sv:Value) (kvs:List Value) (B:Nat) (Q:Rs × Int × Stp) (e:Ending) (w':World):Prop:=∃ kv,e=.returned (.tuple #[.agg (bG Q.2.2 kv),.int .i64 Q.2.1])/\w'.ownsRow w.heap.size 3 1 kv Q.2.2.kd.length (fJ Q.2.2.kd)/\∃ v' aW bn,(∀ k,kv.ownBlock=some k->¬ Kb bn k)/\Rn w' base rb pm b m v' aW bn B Q.1/\gM w w' rb pm b m v sv kvs v' aW bn
def MR (base rb pm b m B n:Nat) (d:lK):Prop:=∀ (w:World) (v sv:Value) (kvs:List Value) (R:Rs) (s:SQ),Rn w base rb pm b m v sv kvs B R->Gs B n R->eD R.t.length s->Ok s.1->(aL R.t s.1 s.2).1=14 ->
 Calls Tryz.prog 50 #[.pointer (some ⟨rb,0,none⟩),.agg (ak s.1 s.2)] w fun e w'=>He w base rb pm b m v sv kvs B (jk d s R (dV R.t s.1 s.2) []) e w'
structure EL (w0 W:World) (base rb pm b m:Nat) (v0 sv0:Value) (dA:List Value) (v sv:Value) (kvs:List Value) (B:Nat) (R:Rs) (b3 b4:Nat) (s:SQ):Prop where
 rn:Rn W base rb pm b m v sv kvs B R
 af:gM w0 W rb pm b m v0 sv0 dA v sv kvs
 s3:aX W b3 s.1 s.2
 c4:Cl W b4 (bG dX (.slice none 0 0)) 46
 g4:w0.heap.size<=b4
 n4:sv.ownBlock≠some b4
section
variable {w0 W W':World} {base rb pm b m:Nat} {v0 sv0 v sv v' aW:Value} {dA kvs bn:List Value} {B:Nat} {R R':Rs} {b3 b4:Nat} {s:SQ}
theorem EL.call (h:EL w0 W base rb pm b m v0 sv0 dA v sv kvs B R b3 b4 s) (hr:Rn W' base rb pm b m v' aW bn B R') (ha:gM W W' rb pm b m v sv kvs v' aW bn):EL w0 W' base rb pm b m v0 sv0 dA v' aW bn B R' b3 b4 s:=by
 have n4:=h.rn.other h.c4 (by decide) (by decide) (by decide) (Or.inr h.n4)
 have n3:=h.rn.other h.s3 (by decide) (by decide) (by decide) (Or.inl (by decide))
 refine⟨hr,h.af.trans ha,ha.cl h.s3 n3,ha.cl h.c4 n4,h.g4,fun e => ?_⟩
 rcases ha.ls b4 e with e | e
 ·exact h.n4 e
 ·have:=h.c4.lt;omega
theorem EL.later (h:EL w0 W base rb pm b m v0 sv0 dA v sv kvs B R b3 b4 s) (hb:Below W.heap.size W W'):EL w0 W' base rb pm b m v0 sv0 dA v sv kvs B R b3 b4 s:=h.call (h.rn.later hb) (gM.of_below hb)
theorem EL.drew (h:EL w0 W base rb pm b m v0 sv0 dA v sv kvs B R b3 b4 s):EL w0 W.drew base rb pm b m v0 sv0 dA v sv kvs B R b3 b4 s:=h.later (Below.refl _ _).drew
theorem EL.table (h:EL w0 W base rb pm b m v0 sv0 dA v sv kvs B R b3 b4 s) {t':List Nd} (ha:After W b m v t' W'):∃ v',EL w0 W' base rb pm b m v0 sv0 dA v' sv kvs B ⟨t',R.st,R.vs⟩ b3 b4 s:=by
 obtain⟨v',h1,h2⟩:=h.rn.table ha
 exact⟨v',h.call h1 h2⟩
theorem EL.uF (h:EL w0 W base rb pm b m v0 sv0 dA v sv kvs B R b3 b4 s) (hk:dY b4 W W') (hG:0<w0.heap.size):Rn W' base rb pm b m v sv kvs B R/\gM w0 W' rb pm b m v0 sv0 dA v sv kvs:=by
 have n4:=h.rn.other h.c4 (by decide) (by decide) (by decide) (Or.inr h.n4)
 have e4:=h.g4
 exact⟨h.rn.own n4 (h.rn.dG.wJ h.c4 (by decide)) (by omega) hk,⟨h.af.lv,h.af.ls,h.af.lk,h.af.kp.trans (S':=fun k=>k=b4) hk (fun i hi=>Or.inr (by omega))⟩⟩
theorem JZ {w w1 w2:World} {s:SQ} (hR:Rn w base rb pm b m v sv kvs B R) (hn1:New w w1 b3 (ak s.1 s.2) 27) (hn2:New w1 w2 b4 (bG dX (.slice none 0 0)) 46):EL w w2 base rb pm b m v sv kvs v sv kvs B R b3 b4 s:=by
 have e1:=hn1.ge;have e2:=hn1.up;have e3:=hn2.ge;have e4:=hn2.eq;have e5:=hn1.eq
 have hb:=aS hn1.au hn2
 refine⟨hR.later hb,gM.of_below hb,Cl.new hn1.blk hn2,hn2.blk,by omega,fun e => ?_⟩
 have:=(hR.dG.blk e).2.1;omega
theorem vg {W W':World} {base base' k n:Nat} {kv:Value} {xs:List Value} (ho:W.ownsRow base 3 1 kv n xs) (hb:base'<=base) {cs:Array Value} (hc:Cl W k cs 46) (hk:dY k W W'):W'.ownsRow base' 3 1 kv n xs:=iF (bV ho fun i e=>by
 obtain⟨_,h2,cur,hcc⟩:=aT ho i e
 refine hk.block i h2 (fun e2 => ?_)
 subst e2
 exact absurd (dF hcc hc) (by decide)) hb
end
theorem ze {d:lK}:∀ (ps:List SQ) (R:Rs) (x:Stp),x.s.1.length=16->(eO d R x ps).2.2.s.1.length=16
 | [],R,x,h=>h
 | p :: ps,R,x,h=>by
  unfold eO
  split
  ·rfl
  ·split
   ·exact h
   ·exact ze ps _ _ h
theorem zf {d:lK} {s:SQ} (h:s.1.length=16):∀ (cs:List (Int × Int)) (R:Rs) (ks:List Nat),(jk d s R cs ks).2.2.s.1.length=16
 | [],R,ks=>h
 | c :: cs,R,ks=>by
  unfold jk
  split
  ·rfl
  ·split
   ·rfl
   ·split
    ·exact ze _ _ _ h
    ·exact zf h cs _ _
theorem E5 {B n:Nat} {d:lK} (_hd:og B d) {R:Rs} (_hG:Gs B n R) {s:SQ} (_hq:eD R.t.length s) (hr:Ok s.1) {P:Rs × Int × Stp} (hP:P=iU d R s):P.2.2.s.1.length=16:=by
 subst hP
 unfold iU
 split
 ·rfl
 ·split
  ·exact zf hr.1 _ _ _
  ·split
   ·rfl
   ·exact ze _ _ _ hr.1
theorem PX {base rb pm b m B n:Nat} {d:lK} (hD:xC base rb pm b m B n d) (hd:og B d) (hC:MR base rb pm b m B n d) (w:World) {v sv:Value} {kvs:List Value} {R:Rs} (hR:Rn w base rb pm b m v sv kvs B R) (hG:Gs B n R) {s:SQ} (hq:eD R.t.length s) (hr:Ok s.1) :
 Calls Tryz.prog 31 #[.pointer (some ⟨rb,0,none⟩),.agg (ak s.1 s.2)] w fun e w'=>He w base rb pm b m v sv kvs B (iU d R s) e w':=by
 have hl:=hr.1
 have wN:=show Hid (0<w.heap.size) from Bt.pW hR.tz
 have HD:=show Hid (xC base rb pm b m B n d) from hD
 have pQ:=show Hid (og B d) from hd
 have HC:=show Hid (MR base rb pm b m B n d) from hC
 have mH:=show Hid (Gs B n R) from hG
 have HQ:=show Hid (eD R.t.length s/\Ok s.1) from⟨hq,hr⟩
 obtain⟨P,hP⟩:∃ P,P=iU d R s:=⟨_,rfl⟩
 rw[<- hP]
 have HP:=show Hid (P=iU d R s) from hP
 have hz0:d9 R.t s.1 s.2=0:=jE hr hq
 have HA:=show Hid ((aL R.t s.1 s.2).1≠14->findF R.t s.1 s.2 (aL R.t s.1 s.2).1 (aL R.t s.1 s.2).2=true) from tu hG.gd.ok hr hz0
 have KA:=show Hid (∀ W:World,∀ v':Value,Tb W b m v' R.t->Bt.Tz W->Calls Tryz.prog 13 #[.pointer (some ⟨b,0,none⟩),.agg (ak s.1 s.2)] W fun e w'=>e=.returned (.tuple #[.int .i64 (aL R.t s.1 s.2).1,.int .i64 (aL R.t s.1 s.2).2,.int .i64 0])/\Below W.heap.size W w') from fun W v' h1 h2=>by
  have h:=uT W h1 h2 hr s.2
  rw[hz0,if_pos rfl,if_pos rfl] at h
  exact h
 have wO:=show Hid (iU d R s=if (aL R.t s.1 s.2).1=14 then jk d s R (dV R.t s.1 s.2) []
 else if (aH R.t s.1 s.2 (aL R.t s.1 s.2).1 (aL R.t s.1 s.2).2).2.2≠0 then (⟨(aH R.t s.1 s.2 (aL R.t s.1 s.2).1 (aL R.t s.1 s.2).2).2.1,R.st,R.vs⟩,(aH R.t s.1 s.2 (aL R.t s.1 s.2).1 (aL R.t s.1 s.2).2).2.2,dX)
 else eO d ⟨(aH R.t s.1 s.2 (aL R.t s.1 s.2).1 (aL R.t s.1 s.2).2).2.1,R.st,R.vs⟩ ⟨s,false,(aL R.t s.1 s.2).1,(aL R.t s.1 s.2).2,[]⟩ (aH R.t s.1 s.2 (aL R.t s.1 s.2).1 (aL R.t s.1 s.2).2).1) from by
  unfold iU
  rw[hz0,if_neg (by simp)]
  exact rfl
 have E8:=show Hid (P.2.2.s.1.length=16) from E5 hd hG hq hr hP
 clear hP hz0 hG hD hd hC hq
 generalize hap:aL R.t s.1 s.2=ap at *
 go_enter Tryz.func31,Tryz.ntmps31
 go_wp2_with (refine aI 27 _ rfl _ rfl rfl ?_)
 intro w1 b3 hn1
 go_wp2_with (refine aF 46 rfl _ oH rfl ?_)
 intro w2 b4 hn2
 have H2:=show Hid (EL w w2 base rb pm b m v sv kvs v sv kvs B R b3 b4 s) from JZ hR hn1 hn2
 clear hn1 hn2 hR hr
 go_wp2_with fail
 refine dO (by kernel_rfl) 5 [some 11,some 12,some 13,some 14,some 15,some 16,some 10,some 17,some 18,some 19,some 6,some 7,some 8] [[],[0],[1],[2],[],[3,4],[5],[6],[6],[6],[7],[8],[9]] [[],[0],[1,0],[2,1,0],[],[3,2,1,0,4],[5,3,2,1,0,4],[6,5,3,2,1,0,4],[6,5,3,2,1,0,4],[6,5,3,2,1,0,4],[7,6,5,3,2,1,0,4],[8,6,5,3,2,1,0,4],[9,6,5,3,2,1,0,4]] (by kernel_rfl) (by decide) (fun ii vv w1=>match ii with | 0=>vv=.pointer (some ⟨rb,0,none⟩) | 1=>vv=.pointer (some ⟨rb,0,none⟩) | 2=>vv=.pointer (some ⟨rb,0,none⟩) | 3=>vv=.pointer (some ⟨b,0,none⟩) | 4=>vv=.agg (ak s.1 s.2) | 5=>vv=.tuple #[.int .i64 ap.1,.int .i64 ap.2,.int .i64 0]/\Below w2.drew.heap.size w2.drew w1 | 6=>vv=.tuple #[.int .i64 ap.1,.int .i64 ap.2,.int .i64 0] | 7=>vv=.int .i64 ap.1 | 8=>vv=.int .i64 ap.2 | 9=>vv=.int .i64 0 | 10=>vv=.int .i64 ap.1 | 11=>vv=.int .i64 ap.2 | 12=>vv=.int .i64 0 | _=>True) ?hfree (bR 13 ?steps) ?fin
 case hfree=>
  intro j v w1 w2 hj hn h
  match j,h,hj,hn with
  | 0,h,_,_=>exact h
  | 1,h,_,_=>exact h
  | 2,h,_,_=>exact h
  | 3,h,_,_=>exact h
  | 4,h,_,_=>exact h
  | 5,_,hj,_=>exact absurd rfl hj
  | 6,_,_,hn=>exact absurd (by decide) hn
  | 7,_,_,hn=>exact absurd (by decide) hn
  | 8,_,_,hn=>exact absurd (by decide) hn
  | 9,_,_,hn=>exact absurd (by decide) hn
  | 10,_,_,hn=>exact absurd (by decide) hn
  | 11,_,_,hn=>exact absurd (by decide) hn
  | 12,_,_,hn=>exact absurd (by decide) hn
  | _+13,_,_,_=>trivial
 case steps=>
  refine⟨⟨⟨⟨⟨⟨⟨⟨⟨⟨⟨⟨⟨trivial,?s0⟩,?s1⟩,?s2⟩,?s3⟩,?s4⟩,?s5⟩,?s6⟩,?s7⟩,?s8⟩,?s9⟩,?s10⟩,?s11⟩,?s12⟩
  case s0=>
   intro a w1 hw hO hN
   obtain rfl:w1=w2.drew:=hw (by decide)
   have o0:a.tmps[0]?=some (.pointer (some ⟨rb,0,none⟩)):=outs hO 0 rfl
   exact ah rfl (.pointer (some ⟨rb,0,none⟩)) _ rfl (by go_simp) ⟨_,rfl,rfl,fun _=>rfl⟩
  case s1=>
   intro a w1 hw hO hN
   obtain rfl:w1=w2.drew:=hw (by decide)
   obtain⟨v0,g0,r0⟩:=aj hN 0 11
   have e0:v0=.pointer (some ⟨rb,0,none⟩):=r0
   rw[e0] at g0
   exact ah rfl (.pointer (some ⟨rb,0,none⟩)) _ rfl (by go_simp) ⟨_,rfl,rfl,fun _=>rfl⟩
  case s2=>
   intro a w1 hw hO hN
   obtain rfl:w1=w2.drew:=hw (by decide)
   obtain⟨v1,g1,r1⟩:=aj hN 1 12
   have e1:v1=.pointer (some ⟨rb,0,none⟩):=r1
   rw[e1] at g1
   exact ah rfl (.pointer (some ⟨rb,0,none⟩)) _ rfl (by go_simp) ⟨_,rfl,rfl,fun _=>rfl⟩
  case s3=>
   intro a w1 hw hO hN
   obtain rfl:w1=w2.drew:=hw (by decide)
   obtain⟨v2,g2,r2⟩:=aj hN 2 13
   have e2:v2=.pointer (some ⟨rb,0,none⟩):=r2
   rw[e2] at g2
   have hc:w2.drew.cell? ⟨rb,0,none⟩=some (.pointer (some ⟨b,0,none⟩)):=H2.out.drew.rn.run.cell 0
   exact ah rfl (.pointer (some ⟨b,0,none⟩)) _ rfl (by go_simp) ⟨_,rfl,rfl,fun _=>rfl⟩
  case s4=>
   intro a w1 hw hO hN
   obtain rfl:w1=w2.drew:=hw (by decide)
   have o3:a.tmps[3]?=some (.pointer (some ⟨b3,0,none⟩)):=outs hO 3 rfl
   have hl:=eZ w2.drew b3 H2.out.drew.s3 hl
   exact ah rfl (.agg (ak s.1 s.2)) _ rfl (by simp[execOp,Act.eval,o3,hl,Result.andThen]) ⟨_,rfl,rfl,fun _=>rfl⟩
  case s5=>
   intro a w1 hw hO hN
   obtain rfl:w1=w2.drew:=hw (by decide)
   obtain⟨v3,g3,r3⟩:=aj hN 3 14
   have e3:v3=.pointer (some ⟨b,0,none⟩):=r3
   rw[e3] at g3
   obtain⟨v4,g4,r4⟩:=aj hN 4 15
   have e4:v4=.agg (ak s.1 s.2):=r4
   rw[e4] at g4
   refine aR rfl rfl 13 [.tmp 14,.tmp 15] #[28,27] rfl [.pointer (some ⟨b,0,none⟩),.agg (ak s.1 s.2)] (by simp[Act.eval,g3,g4]) (enters_of Tryz.func13 (by kernel_rfl) rfl) (Calls.mono (KA.out w2.drew v H2.out.drew.rn.tb H2.out.drew.rn.tz) ?_)
   rintro e w3 ⟨rfl,hb⟩
   exact⟨_,rfl,_,rfl,⟨rfl,hb⟩,fun h=>absurd rfl h⟩
  case s6=>
   intro a w1 hw hO hN
   obtain⟨v5,g5,r5⟩:=aj hN 5 16
   obtain⟨rfl,_⟩:=r5
   exact ah rfl (.tuple #[.int .i64 ap.1,.int .i64 ap.2,.int .i64 0]) _ rfl (by go_simp) ⟨_,rfl,rfl,fun _=>rfl⟩
  case s7=>
   intro a w1 hw hO hN
   obtain⟨v6,g6,r6⟩:=aj hN 6 10
   have e6:v6=.tuple #[.int .i64 ap.1,.int .i64 ap.2,.int .i64 0]:=r6
   rw[e6] at g6
   exact ah rfl (.int .i64 ap.1) _ rfl (by go_simp) ⟨_,rfl,rfl,fun _=>rfl⟩
  case s8=>
   intro a w1 hw hO hN
   obtain⟨v6,g6,r6⟩:=aj hN 6 10
   have e6:v6=.tuple #[.int .i64 ap.1,.int .i64 ap.2,.int .i64 0]:=r6
   rw[e6] at g6
   exact ah rfl (.int .i64 ap.2) _ rfl (by go_simp) ⟨_,rfl,rfl,fun _=>rfl⟩
  case s9=>
   intro a w1 hw hO hN
   obtain⟨v6,g6,r6⟩:=aj hN 6 10
   have e6:v6=.tuple #[.int .i64 ap.1,.int .i64 ap.2,.int .i64 0]:=r6
   rw[e6] at g6
   exact ah rfl (.int .i64 0) _ rfl (by go_simp) ⟨_,rfl,rfl,fun _=>rfl⟩
  case s10=>
   intro a w1 hw hO hN
   obtain⟨v7,g7,r7⟩:=aj hN 7 17
   have e7:v7=.int .i64 ap.1:=r7
   rw[e7] at g7
   exact ah rfl (.int .i64 ap.1) _ rfl (by go_simp) ⟨_,rfl,rfl,fun _=>rfl⟩
  case s11=>
   intro a w1 hw hO hN
   obtain⟨v8,g8,r8⟩:=aj hN 8 18
   have e8:v8=.int .i64 ap.2:=r8
   rw[e8] at g8
   exact ah rfl (.int .i64 ap.2) _ rfl (by go_simp) ⟨_,rfl,rfl,fun _=>rfl⟩
  case s12=>
   intro a w1 hw hO hN
   obtain⟨v9,g9,r9⟩:=aj hN 9 19
   have e9:v9=.int .i64 0:=r9
   rw[e9] at g9
   exact ah rfl (.int .i64 0) _ rfl (by go_simp) ⟨_,rfl,rfl,fun _=>rfl⟩
 case fin=>
  intro vs W1 hV
  have e6:vs 6=.tuple #[.int .i64 ap.1,.int .i64 ap.2,.int .i64 0]:=hV 6 (by decide)
  have e7:vs 7=.int .i64 ap.1:=hV 7 (by decide)
  have e8:vs 8=.int .i64 ap.2:=hV 8 (by decide)
  have e9:vs 9=.int .i64 0:=hV 9 (by decide)
  have e10:vs 10=.int .i64 ap.1:=hV 10 (by decide)
  have e11:vs 11=.int .i64 ap.2:=hV 11 (by decide)
  have e12:vs 12=.int .i64 0:=hV 12 (by decide)
  obtain⟨e5,hb5⟩:vs 5=.tuple #[.int .i64 ap.1,.int .i64 ap.2,.int .i64 0]/\Below w2.drew.heap.size w2.drew W1:=hV 5 (by decide)
  have H3:=show Hid _ from H2.out.drew.later hb5
  clear hb5 H2 hV
  simp only[bg,Act.put,List.setIfInBounds_toArray,List.set_cons_zero,List.set_cons_succ,e10,e11,e12]
  clear e5 e6 e7 e8 e9 e10 e11 e12
  by_cases fD:ap.1=14
  ·have hp:P=jk d s R (dV R.t s.1 s.2) []:=by rw[HP.out,wO.out,if_pos fD]
   have KC:=show Hid _ from HC.out W1 v sv kvs R s H3.out.rn mH.out HQ.out.1 HQ.out.2 (by rw[hap];exact fD)
   rw[<- hp] at KC
   have hbk:(ap.1 == 14)=true:=by rw[fD];rfl
   clear hp HP wO hap
   go_wp2_with (refine aJ _ _ rfl b3 rfl H3.out.s3 hl rfl ?_)
   refine Calls.mono KC.out ?_
   rintro e w4 ⟨kv,rfl,J2,v4,Vi,MS,fP,zH,Vj⟩
   have H4:=show Hid (EL w w4 base rb pm b m v sv kvs v4 Vi MS B P.1 b3 b4 s) from H3.out.call zH Vj
   have qX:=show Hid (w.heap.size<=W1.heap.size) from H3.out.af.kp.size
   have J3:=show Hid (w4.ownsRow W1.heap.size 3 1 kv P.2.2.kd.length (fJ P.2.2.kd)/\(∀ k,kv.ownBlock=some k->¬ Kb MS k)/\P.2.2.s.1.length=16) from⟨J2,fP,E8.out⟩
   clear J2 fP zH Vj KC H3
   go_wp2_with (refine fZ rfl rfl _ _ rfl b4 rfl J3.out.2.2 (lY J3.out.1) rfl rfl H4.out.c4 ?_)
   intro w5 mF hk5
   obtain⟨jT,iV⟩:=H4.out.uF hk5 wN.out
   have Og:=vg J3.out.1 qX.out H4.out.c4 hk5
   clear H4
   go_wp2_with fail
   refine bodyPost_ret (gI rfl _ _ b4 rfl mF (dW J3.out.2.2 _)) rfl ?_
   exact⟨_,rfl,Og,v4,Vi,MS,J3.out.2.1,jT,iV⟩
  ·have hbk:(ap.1 == 14)=false:=by simpa using fD
   have HF:=show Hid (findF R.t s.1 s.2 ap.1 ap.2=true) from HA.out fD
   have hp:P=if (aH R.t s.1 s.2 ap.1 ap.2).2.2≠0 then (⟨(aH R.t s.1 s.2 ap.1 ap.2).2.1,R.st,R.vs⟩,(aH R.t s.1 s.2 ap.1 ap.2).2.2,dX) else eO d ⟨(aH R.t s.1 s.2 ap.1 ap.2).2.1,R.st,R.vs⟩ ⟨s,false,ap.1,ap.2,[]⟩ (aH R.t s.1 s.2 ap.1 ap.2).1:=by rw[HP.out,wO.out,if_neg fD]
   have lN:=show Hid _ from hp
   have KP:=show Hid (∀ W:World,Tb W b m v R.t->Bt.Tz W->Calls Tryz.prog 51 #[.pointer (some ⟨b,0,none⟩),.agg (ak s.1 s.2),.int .i64 ap.1,.int .i64 ap.2] W fun e w'=>∃ sv,e=.returned (.tuple #[sv,.int .i64 (aH R.t s.1 s.2 ap.1 ap.2).2.2])/\eu sv (aH R.t s.1 s.2 ap.1 ap.2).1 w'/\After W b m v (aH R.t s.1 s.2 ap.1 ap.2).2.1 w') from fun W h1 h2=>BP W h1 h2 HQ.out.2 s.2 ap.1 ap.2
   have tX:=show Hid ((aH R.t s.1 s.2 ap.1 ap.2).2.2=0->Fm.Ok (aH R.t s.1 s.2 ap.1 ap.2).2.1/\Ext R.t (aH R.t s.1 s.2 ap.1 ap.2).2.1/\(∀ p ∈ (aH R.t s.1 s.2 ap.1 ap.2).1,eD (aH R.t s.1 s.2 ap.1 ap.2).2.1.length p/\Ok p.1)) from fun h0=>by
    obtain⟨a1,a2,a3,_⟩:=mX mH.out.gd.ok HQ.out.2 HQ.out.1 HF.out h0
    exact⟨a1,a2,a3⟩
   have tK:=show Hid ((aH R.t s.1 s.2 ap.1 ap.2).1.length<=2) from(oW (t:=R.t) HQ.out.2 s.2 ap.1 ap.2).2
   clear hp HP wO hap HF HA KA HC
   generalize aH R.t s.1 s.2 ap.1 ap.2=pf at *
   go_wp2_with fail
   refine dO (by kernel_rfl) 7 [some 32,some 33,some 34,some 35,some 36,some 37,some 38,some 39,some 31,some 40,some 41,some 9,some 8] [[],[0],[1],[2],[],[],[],[3,4,5,6],[7],[8],[8],[9],[10]] [[],[0],[1,0],[2,1,0],[],[],[],[3,2,1,0,4,5,6],[7,3,2,1,0,4,5,6],[8,7,3,2,1,0,4,5,6],[8,7,3,2,1,0,4,5,6],[9,8,7,3,2,1,0,4,5,6],[10,8,7,3,2,1,0,4,5,6]] (by kernel_rfl) (by decide) (fun ii vv w1=>match ii with | 0=>vv=.pointer (some ⟨rb,0,none⟩) | 1=>vv=.pointer (some ⟨rb,0,none⟩) | 2=>vv=.pointer (some ⟨rb,0,none⟩) | 3=>vv=.pointer (some ⟨b,0,none⟩) | 4=>vv=.agg (ak s.1 s.2) | 5=>vv=.int .i64 ap.1 | 6=>vv=.int .i64 ap.2 | 7=>∃ sv,vv=.tuple #[sv,.int .i64 pf.2.2]/\eu sv pf.1 w1/\After W1.drew b m v pf.2.1 w1 | 8=>∃ sv,vv=.tuple #[sv,.int .i64 pf.2.2]/\eu sv pf.1 w1/\After W1.drew b m v pf.2.1 w1 | 9=>eu vv pf.1 w1/\After W1.drew b m v pf.2.1 w1 | 10=>vv=.int .i64 pf.2.2 | 11=>eu vv pf.1 w1/\After W1.drew b m v pf.2.1 w1 | 12=>vv=.int .i64 pf.2.2 | _=>True) ?hfree (bR 13 ?steps) ?fin
   case hfree=>
    intro j v w1 w2 hj hn h
    match j,h,hj,hn with
    | 0,h,_,_=>exact h
    | 1,h,_,_=>exact h
    | 2,h,_,_=>exact h
    | 3,h,_,_=>exact h
    | 4,h,_,_=>exact h
    | 5,h,_,_=>exact h
    | 6,h,_,_=>exact h
    | 7,_,hj,_=>exact absurd rfl hj
    | 8,_,_,hn=>exact absurd (by decide) hn
    | 9,_,_,hn=>exact absurd (by decide) hn
    | 10,_,_,hn=>exact absurd (by decide) hn
    | 11,_,_,hn=>exact absurd (by decide) hn
    | 12,_,_,hn=>exact absurd (by decide) hn
    | _+13,_,_,_=>trivial
   case steps=>
    refine⟨⟨⟨⟨⟨⟨⟨⟨⟨⟨⟨⟨⟨trivial,?s0⟩,?s1⟩,?s2⟩,?s3⟩,?s4⟩,?s5⟩,?s6⟩,?s7⟩,?s8⟩,?s9⟩,?s10⟩,?s11⟩,?s12⟩
    case s0=>
     intro a w1 hw hO hN
     obtain rfl:w1=W1.drew:=hw (by decide)
     have o0:a.tmps[0]?=some (.pointer (some ⟨rb,0,none⟩)):=outs hO 0 rfl
     exact ah rfl (.pointer (some ⟨rb,0,none⟩)) _ rfl (by go_simp) ⟨_,rfl,rfl,fun _=>rfl⟩
    case s1=>
     intro a w1 hw hO hN
     obtain rfl:w1=W1.drew:=hw (by decide)
     obtain⟨v0,g0,r0⟩:=aj hN 0 32
     have e0:v0=.pointer (some ⟨rb,0,none⟩):=r0
     rw[e0] at g0
     exact ah rfl (.pointer (some ⟨rb,0,none⟩)) _ rfl (by go_simp) ⟨_,rfl,rfl,fun _=>rfl⟩
    case s2=>
     intro a w1 hw hO hN
     obtain rfl:w1=W1.drew:=hw (by decide)
     obtain⟨v1,g1,r1⟩:=aj hN 1 33
     have e1:v1=.pointer (some ⟨rb,0,none⟩):=r1
     rw[e1] at g1
     exact ah rfl (.pointer (some ⟨rb,0,none⟩)) _ rfl (by go_simp) ⟨_,rfl,rfl,fun _=>rfl⟩
    case s3=>
     intro a w1 hw hO hN
     obtain rfl:w1=W1.drew:=hw (by decide)
     obtain⟨v2,g2,r2⟩:=aj hN 2 34
     have e2:v2=.pointer (some ⟨rb,0,none⟩):=r2
     rw[e2] at g2
     have hc:W1.drew.cell? ⟨rb,0,none⟩=some (.pointer (some ⟨b,0,none⟩)):=H3.out.drew.rn.run.cell 0
     exact ah rfl (.pointer (some ⟨b,0,none⟩)) _ rfl (by go_simp) ⟨_,rfl,rfl,fun _=>rfl⟩
    case s4=>
     intro a w1 hw hO hN
     obtain rfl:w1=W1.drew:=hw (by decide)
     have o3:a.tmps[3]?=some (.pointer (some ⟨b3,0,none⟩)):=outs hO 3 rfl
     have hl:=eZ W1.drew b3 H3.out.drew.s3 hl
     exact ah rfl (.agg (ak s.1 s.2)) _ rfl (by simp[execOp,Act.eval,o3,hl,Result.andThen]) ⟨_,rfl,rfl,fun _=>rfl⟩
    case s5=>
     intro a w1 hw hO hN
     obtain rfl:w1=W1.drew:=hw (by decide)
     have o6:a.tmps[6]?=some (.int .i64 ap.1):=outs hO 6 rfl
     exact ah rfl (.int .i64 ap.1) _ rfl (by go_simp) ⟨_,rfl,rfl,fun _=>rfl⟩
    case s6=>
     intro a w1 hw hO hN
     obtain rfl:w1=W1.drew:=hw (by decide)
     have o7:a.tmps[7]?=some (.int .i64 ap.2):=outs hO 7 rfl
     exact ah rfl (.int .i64 ap.2) _ rfl (by go_simp) ⟨_,rfl,rfl,fun _=>rfl⟩
    case s7=>
     intro a w1 hw hO hN
     obtain rfl:w1=W1.drew:=hw (by decide)
     obtain⟨v3,g3,r3⟩:=aj hN 3 35
     have e3:v3=.pointer (some ⟨b,0,none⟩):=r3
     rw[e3] at g3
     obtain⟨v4,g4,r4⟩:=aj hN 4 36
     have e4:v4=.agg (ak s.1 s.2):=r4
     rw[e4] at g4
     obtain⟨v5,g5,r5⟩:=aj hN 5 37
     have e5:v5=.int .i64 ap.1:=r5
     rw[e5] at g5
     obtain⟨v6,g6,r6⟩:=aj hN 6 38
     have e6:v6=.int .i64 ap.2:=r6
     rw[e6] at g6
     refine aR rfl rfl 51 [.tmp 35,.tmp 36,.tmp 37,.tmp 38] #[28,27,43,3] rfl [.pointer (some ⟨b,0,none⟩),.agg (ak s.1 s.2),.int .i64 ap.1,.int .i64 ap.2] (by simp[Act.eval,g3,g4,g5,g6]) (enters_of Tryz.func51 (by kernel_rfl) rfl) (Calls.mono (KP.out W1.drew H3.out.drew.rn.tb H3.out.drew.rn.tz) ?_)
     rintro e w3 ⟨sq,rfl,hs,ha⟩
     exact⟨_,rfl,_,rfl,⟨sq,rfl,hs,ha⟩,fun h=>absurd rfl h⟩
    case s8=>
     intro a w1 hw hO hN
     obtain⟨v7,g7,r7⟩:=aj hN 7 39
     obtain⟨sq,rfl,hs,ha⟩:=r7
     exact ah rfl (.tuple #[sq,.int .i64 pf.2.2]) _ rfl (by go_simp) ⟨_,rfl,⟨sq,rfl,hs,ha⟩,fun _=>rfl⟩
    case s9=>
     intro a w1 hw hO hN
     obtain⟨v8,g8,r8⟩:=aj hN 8 31
     obtain⟨sq,rfl,hs,ha⟩:=r8
     exact ah rfl sq _ rfl (by go_simp) ⟨_,rfl,⟨hs,ha⟩,fun _=>rfl⟩
    case s10=>
     intro a w1 hw hO hN
     obtain⟨v8,g8,r8⟩:=aj hN 8 31
     obtain⟨sq,rfl,hs,ha⟩:=r8
     exact ah rfl (.int .i64 pf.2.2) _ rfl (by go_simp) ⟨_,rfl,rfl,fun _=>rfl⟩
    case s11=>
     intro a w1 hw hO hN
     obtain⟨v9,g9,r9⟩:=aj hN 9 40
     exact ah rfl v9 _ rfl (by go_simp) ⟨_,rfl,r9,fun _=>rfl⟩
    case s12=>
     intro a w1 hw hO hN
     obtain⟨v10,g10,bM⟩:=aj hN 10 41
     have e10:v10=.int .i64 pf.2.2:=bM
     rw[e10] at g10
     exact ah rfl (.int .i64 pf.2.2) _ rfl (by go_simp) ⟨_,rfl,rfl,fun _=>rfl⟩
   case fin=>
    intro vs w1 hV
    have e12:vs 12=.int .i64 pf.2.2:=hV 12 (by decide)
    have e10:vs 10=.int .i64 pf.2.2:=hV 10 (by decide)
    obtain⟨SV,SX⟩:eu (vs 11) pf.1 w1/\After W1.drew b m v pf.2.1 w1:=hV 11 (by decide)
    obtain⟨v4,vo⟩:=H3.out.drew.table SX
    have H4:=show Hid (EL w w1 base rb pm b m v sv kvs v4 sv kvs B ⟨pf.2.1,R.st,R.vs⟩ b3 b4 s/\eu (vs 11) pf.1 w1) from⟨vo,SV⟩
    clear vo SV SX hV H3 KP
    simp only[bg,Act.put,List.setIfInBounds_toArray,List.set_cons_zero,List.set_cons_succ,e12]
    clear e12 e10
    generalize vs 11=sq at *
    by_cases hpe:pf.2.2=0
    ·have hpb:(pf.2.2 != 0)=false:=by rw[hpe];rfl
     obtain⟨gH,hE1,hrg⟩:=tX.out hpe
     have fE:=show Hid (P=eO d ⟨pf.2.1,R.st,R.vs⟩ ⟨s,false,ap.1,ap.2,[]⟩ pf.1) from by rw[lN.out,if_neg (by rw[hpe];simp)];exact rfl
     have KF:=show Hid _ from EY HD.out pQ.out w1 H4.out.1.rn ⟨mH.out.gd.grow gH hE1,mH.out.vs,mH.out.st,mH.out.fu,mH.out.mx⟩ (x:=⟨s,false,ap.1,ap.2,[]⟩) HQ.out.2 rfl H4.out.2 hrg (by have:=tK.out;omega)
     rw[<- fE.out] at KF
     clear gH hE1 hrg lN fE tX
     go_wp2_with (first|(refine aJ _ _ rfl b3 rfl H4.out.1.s3 hl rfl ?_)|(refine Cx rfl _ _ _ rfl rfl rfl rfl hl ?_))
     refine Calls.mono KF.out ?_
     rintro e w4 ⟨kv,rfl,J2,v5,wL,kM,bB,jT,iV⟩
     have H5:=show Hid (EL w w4 base rb pm b m v sv kvs v5 wL kM B P.1 b3 b4 s) from H4.out.1.call jT iV
     have qX:=show Hid (w.heap.size<=w1.heap.size) from H4.out.1.af.kp.size
     have J4:=show Hid (w4.ownsRow w1.heap.size 3 1 kv P.2.2.kd.length (fJ P.2.2.kd)/\(∀ k,kv.ownBlock=some k->¬ Kb kM k)/\P.2.2.s.1.length=16) from⟨J2,bB,E8.out⟩
     clear J2 bB jT iV KF H4
     go_wp2_with (refine fZ rfl rfl _ _ rfl b4 rfl J4.out.2.2 (lY J4.out.1) rfl rfl H5.out.c4 ?_)
     intro w5 mF hk5
     obtain⟨jT,iV⟩:=H5.out.uF hk5 wN.out
     have YT:=vg J4.out.1 qX.out H5.out.c4 hk5
     clear H5
     go_wp2_with fail
     refine bodyPost_ret (gI rfl _ _ b4 rfl mF (dW J4.out.2.2 _)) rfl ?_
     exact⟨_,rfl,YT,v5,wL,kM,J4.out.2.1,jT,iV⟩
    ·have hpb:(pf.2.2 != 0)=true:=by simpa using hpe
     have hp3:P=(⟨pf.2.1,R.st,R.vs⟩,pf.2.2,dX):=by rw[lN.out,if_pos hpe]
     clear lN
     go_wp2_with (first|(refine nT rfl rfl ?_)|(refine fZ rfl rfl _ _ rfl b4 rfl (s:=dX) rfl rfl rfl rfl H4.out.1.c4 ?_))
     intro w5 mF hk5
     obtain⟨jT,iV⟩:=H4.out.1.uF hk5 wN.out
     subst hp3
     clear H4
     go_wp2_with fail
     refine bodyPost_ret (gI rfl _ _ b4 rfl mF (dW (x:=dX) rfl _)) rfl ?_
     exact⟨_,rfl,mY,v4,sv,kvs,fun k e=>(by cases e),jT,iV⟩
end Go.Proofs.YtkejippimkjjaaaGreatDoor

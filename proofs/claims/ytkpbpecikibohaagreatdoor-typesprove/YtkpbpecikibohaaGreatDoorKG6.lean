import Derived.Test.YtkpbpecikibohaaGreatDoorKG3
import Derived.Test.YtkpbpecikibohaaGreatDoorKG5
import Derived.Test.YtkpbpecikibohaaGreatDoorKG4
import Derived.Test.YtkpbpecikibohaaGreatDoorZG9
set_option linter.unusedSimpArgs false
set_option maxRecDepth 100000
set_option maxHeartbeats 4000000
namespace Go.Proofs.YtkpbpecikibohaaGreatDoor
open Go.RowKit Go.Shelf Go.Maps
open Fm (Nd)
open Bt.Bs (Ok wd)
def yG (base rb pm b m B n:Nat) (d:lX):Prop:=∀ (w:World) (v sv:Value) (kvs:List Value) (R:Rs) (s:SQ),Rn w base rb pm b m v sv kvs B R->Gd R->R.vs<=B->R.st.length<=R.vs->B<=R.vs+n->eH R.t.length s->Ok s.1 ->
 Calls Tryz.prog 33 #[.pointer (some ⟨rb,0,none⟩),.agg (au s.1 s.2)] w fun e w'=>e=.returned (.tuple #[.int .i64 ((d R s).2.2:Int),.int .i64 (d R s).2.1])/\∃ v' bH bI,Rn w' base rb pm b m v' bH bI B (d R s).1/\gJ w w' rb pm b m v sv kvs v' bH bI
structure Gs (B n:Nat) (R:Rs):Prop where
 gd:Gd R
 vs:R.vs<=B
 st:R.st.length<=R.vs
 fu:B<=R.vs+n
 mx:B<=4096
theorem Gs.dec {B n:Nat} {R:Rs} {s:SQ} {d:lX} (h:Gs B n R) (hd:qD B d) (hq:eH R.t.length s) (hr:Ok s.1):Gs B n (d R s).1:=by
 have h1:=hd R s h.gd h.vs hq hr
 have h2:=h1.ct.1
 have h3:=h1.vs
 have h4:=h.st
 have h5:=h.fu
 exact⟨h1.gd,h3.2,by omega,by omega,h.mx⟩
structure FL (w0 W:World) (base rb pm b m:Nat) (v0 sv0:Value) (dW:List Value) (v sv:Value) (kvs:List Value) (B:Nat) (R:Rs) (b4 b6:Nat) (x:Stp) (kv pv:Value) (ps:List SQ):Prop where
 rn:Rn W base rb pm b m v sv kvs B R
 af:gJ w0 W rb pm b m v0 sv0 dW v sv kvs
 c4:Cl W b4 (bF x kv) 102
 c6:Cl W b6 (bF fF (.slice none 0 0)) 102
 g4:w0.heap.size<=b4
 g6:w0.heap.size<=b6
 ne:b4≠b6
 n4:sv.ownBlock≠some b4
 n6:sv.ownBlock≠some b6
 kd:W.ownsRow w0.heap.size 3 1 kv x.kd.length (kW x.kd)
 kn:∀ k,kv.ownBlock=some k->¬ Kb kvs k
 sq:iV pv ps W
theorem iV.kp {W W':World} {pv:Value} {l:List SQ} (h:iV pv l W) (hk:∀ (k:Nat) (cs:Array Value),Cl W k cs 53->W'.heap[k]?=W.heap[k]?):iV pv l W':=by
 rcases h with h | ⟨q,h1,h2⟩
 ·exact Or.inl h
 ·exact Or.inr ⟨q,h1,(hk q _ h2).trans h2⟩
theorem gF {W:World} {k:Nat} {cs cs':Array Value} {T T':TypeId} {f f':Nat × Nat} (h:W.heap[k]?=some (.cells cs T f)) (h':W.heap[k]?=some (.cells cs' T' f')):T=T':=by
 rw[h] at h'
 injection h' with h'
 injection h'
section
variable {w0 W W' W2:World} {base rb pm b m:Nat} {v0 sv0 v sv v' bH:Value} {dW kvs bI:List Value} {B:Nat} {R R':Rs} {b4 b6:Nat} {x:Stp} {kv pv:Value} {ps:List SQ}
theorem FL.call (h:FL w0 W base rb pm b m v0 sv0 dW v sv kvs B R b4 b6 x kv pv ps) (hr:Rn W' base rb pm b m v' bH bI B R') (ha:gJ W W' rb pm b m v sv kvs v' bH bI):FL w0 W' base rb pm b m v0 sv0 dW v' bH bI B R' b4 b6 x kv pv ps:=by
 have n4:=h.rn.other h.c4 (by decide) (by decide) (by decide) (Or.inr h.n4)
 have n6:=h.rn.other h.c6 (by decide) (by decide) (by decide) (Or.inr h.n6)
 refine⟨hr,h.af.trans ha,ha.cl h.c4 n4,ha.cl h.c6 n6,h.g4,h.g6,h.ne,fun e => ?_,fun e => ?_,bD h.kd fun k e => ?_,fun k e hb => ?_,h.sq.kp fun k cs hc=>ha.kp.block k hc.lt (h.rn.other hc (by decide) (by decide) (by decide) (Or.inl (by decide)))⟩
 ·rcases ha.ls b4 e with e | e
  ·exact h.n4 e
  ·have:=h.c4.lt;omega
 ·rcases ha.ls b6 e with e | e
  ·exact h.n6 e
  ·have:=h.c6.lt;omega
 ·obtain⟨_,h2,cur,hc⟩:=aP h.kd k e
  exact ha.kp.block k h2 (h.rn.other hc (by decide) (by decide) (by decide) (Or.inl (by decide)))
 ·rcases ha.lk k hb with h1 | h1
  ·exact h.kn k e h1
  ·have:=(aP h.kd k e).2.1;omega
theorem FL.later (h:FL w0 W base rb pm b m v0 sv0 dW v sv kvs B R b4 b6 x kv pv ps) (hb:Below W.heap.size W W'):FL w0 W' base rb pm b m v0 sv0 dW v sv kvs B R b4 b6 x kv pv ps:=h.call (h.rn.later hb) (gJ.of_below hb)
theorem FL.vW (h:FL w0 W base rb pm b m v0 sv0 dW v sv kvs B R b4 b6 x kv pv ps) {x':Stp} {kv':Value} (hc:Cl W' b4 (bF x' kv') 102) (hk:dn b4 W W') (hd:W.ownsRow w0.heap.size 3 1 kv' x'.kd.length (kW x'.kd)) (hkn:∀ k,kv'.ownBlock=some k->¬ Kb kvs k) (hG:2<w0.heap.size):FL w0 W' base rb pm b m v0 sv0 dW v sv kvs B R b4 b6 x' kv' pv ps:=by
 have n4:=h.rn.other h.c4 (by decide) (by decide) (by decide) (Or.inr h.n4)
 have e4:=h.g4
 refine⟨h.rn.own n4 (h.rn.gy.BK h.c4 (by decide)) (by omega) hk,⟨h.af.lv,h.af.ls,h.af.lk,h.af.kp.trans (S':=fun k=>k=b4) hk (fun i hi=>Or.inr (by omega))⟩,hc,(hk.block b6 h.c6.lt (fun e=>h.ne e.symm)).trans h.c6,h.g4,h.g6,h.ne,h.n4,h.n6,bD hd fun k e => ?_,hkn,h.sq.kp fun k cs hq=>hk.block k hq.lt (fun e => ?_)⟩
 ·obtain⟨_,h2,cur,hcc⟩:=aP hd k e
  refine hk.block k h2 (fun e2 => ?_)
  subst e2
  exact absurd (gF hcc h.c4) (by decide)
 ·subst e
  exact absurd (gF hq h.c4) (by decide)
theorem FL.JL (h:FL w0 W base rb pm b m v0 sv0 dW v sv kvs B R b4 b6 x kv pv ps) (hg:W.grownBy W' kv.ownBlock):Cl W' b4 (bF x kv) 102:=(hg.block b4 h.c4.lt (fun e=>by
 obtain⟨_,_,cur,hc⟩:=aP h.kd b4 e.symm
 exact absurd (gF hc h.c4) (by decide))).trans h.c4
theorem FL.Wd (h:FL w0 W base rb pm b m v0 sv0 dW v sv kvs B R b4 b6 x kv pv ps) (hg:W.grownBy W' kv.ownBlock) {x':Stp} {kv':Value} (ho:W'.ownsRow w0.heap.size 3 1 kv' x'.kd.length (kW x'.kd)) (hat:kv'.ownBlock=kv.ownBlock\/kv'.ownBlock=some W.heap.size) (hc:Cl W2 b4 (bF x' kv') 102) (hk:dn b4 W' W2) (hG:2<w0.heap.size):FL w0 W2 base rb pm b m v0 sv0 dW v sv kvs B R b4 b6 x' kv' pv ps:=by
 have e4:=h.g4
 have n4:=h.rn.other h.c4 (by decide) (by decide) (by decide) (Or.inr h.n4)
 have hS:∀ k,kv.ownBlock=some k->w0.heap.size<=k/\∃ cur,W.heap[k]?=some (.cells cur 3 (0,0)):=fun k e=>⟨(aP h.kd k e).1,(aP h.kd k e).2.2⟩
 have hk1:Kp (fun k=>kv.ownBlock=some k\/k=b4) W W2:=by
  refine Kp.trans (S:=fun k=>kv.ownBlock=some k\/k=b4) (S':=fun k=>k=b4) ⟨hg.os,hg.tape,hg.output,hg.size,fun k hk hn=>hg.block k hk (fun e=>hn (Or.inl e.symm))⟩ hk (fun i hi=>Or.inl (Or.inr hi))
 have hn:∀ k,qE rb pm b m v sv k->¬ (kv.ownBlock=some k\/k=b4):=fun k hf e=>by
  rcases e with e | e
  ·obtain⟨_,cur,hc⟩:=hS k e
   exact h.rn.other hc (by decide) (by decide) (by decide) (Or.inl (by decide)) hf
  ·exact n4 (e ▸ hf)
 have hkb:∀ k,Kb kvs k->¬ (kv.ownBlock=some k\/k=b4):=fun k hb e=>by
  rcases e with e | e
  ·exact h.kn k e hb
  ·exact h.rn.gy.BK h.c4 (by decide) (e ▸ hb)
 refine⟨h.rn.keep hk1.size (fun k hf=>hk1.block k (h.rn.foot k hf) (hn k hf)) (fun k hb=>hk1.block k (h.rn.gy.kb hb).2.1 (hkb k hb)) (zK h.rn.tz hk1 (fun e => ?_)),⟨h.af.lv,h.af.ls,h.af.lk,h.af.kp.trans hk1 (fun i hi=>Or.inr ?_)⟩,hc,(hk1.block b6 h.c6.lt (fun e => ?_)).trans h.c6,h.g4,h.g6,h.ne,h.n4,h.n6,bD ho fun k e => ?_,fun k e hb => ?_,h.sq.kp fun k cs hq=>hk1.block k hq.lt (fun e => ?_)⟩
 ·rcases e with e | e
  ·have:=(hS _ e).1;omega
  ·omega
 ·rcases hi with e | e
  ·exact(hS _ e).1
  ·omega
 ·rcases e with e | e
  ·obtain⟨_,cur,h2⟩:=hS _ e
   exact absurd (gF h2 h.c6) (by decide)
  ·exact h.ne e.symm
 ·obtain⟨_,h2,cur,h3⟩:=aP ho k e
  refine hk.block k h2 (fun e2 => ?_)
  subst e2
  exact absurd (gF h3 (h.JL hg)) (by decide)
 ·rcases hat with h1 | h1
  ·exact h.kn k (h1 ▸ e) hb
  ·rw[h1] at e
   cases e
   have:=(h.rn.gy.kb hb).2.1
   omega
 ·rcases e with e | e
  ·obtain⟨_,cur,h2⟩:=hS _ e
   exact absurd (gF h2 hq) (by decide)
  ·subst e
   exact absurd (gF hq h.c4) (by decide)
theorem FL.vX (h:FL w0 W base rb pm b m v0 sv0 dW v sv kvs B R b4 b6 x kv pv ps) (hk:dn b6 W W') (hG:2<w0.heap.size):Rn W' base rb pm b m v sv kvs B R/\gJ w0 W' rb pm b m v0 sv0 dW v sv kvs/\W'.ownsRow w0.heap.size 3 1 kv x.kd.length (kW x.kd):=by
 have n6:=h.rn.other h.c6 (by decide) (by decide) (by decide) (Or.inr h.n6)
 have e6:=h.g6
 refine⟨h.rn.own n6 (h.rn.gy.BK h.c6 (by decide)) (by omega) hk,⟨h.af.lv,h.af.ls,h.af.lk,h.af.kp.trans (S':=fun k=>k=b6) hk (fun i hi=>Or.inr (by omega))⟩,bD h.kd fun k e => ?_⟩
 obtain⟨_,h2,cur,hcc⟩:=aP h.kd k e
 refine hk.block k h2 (fun e2 => ?_)
 subst e2
 exact absurd (gF hcc h.c6) (by decide)
end
theorem qW:(Tryz.prog.info? 3).map (fun i=>(i.zero,i.size,i.bytes))=some (some (.int .i64 0),1,8):=by kernel_rfl
theorem EO (l:List Nat) (k:Nat):kW (l ++ [k])=kW l ++ [.int .i64 (k:Int)]:=by simp[kW]
theorem PX {w w':World} {base q:Nat} {k:Nat} (h:New w w' q #[.int .i64 (k:Int)] 3) (hb:base<=q):w'.ownsRow base 3 1 (.slice (some ⟨q,0,none⟩) 1 1) [k].length (kW [k]):=⟨rfl,Or.inr ⟨q,1,_,rfl,hb,h.blk,Nat.le_refl _,by unfold maxLen;show 1<=_;omega,rfl,rfl⟩⟩
theorem rT {w:World} {base:Nat} {e:TypeId}:w.ownsRow base e 1 (.slice none 0 0) ([]:List Nat).length (kW []):=⟨rfl,Or.inl ⟨rfl,rfl⟩⟩
theorem Hw {base rb pm b m B n:Nat} {d:lX} (hD:yG base rb pm b m B n d) (hd:qD B d) (w:World) {v sv:Value} {kvs:List Value} {R:Rs} (hR:Rn w base rb pm b m v sv kvs B R) (hG:Gs B n R) {x:Stp} (hx:Ok x.s.1) (hk:x.kd=[]) {ps:List SQ} {pv:Value} (hps:iV pv ps w) (hrg:∀ p ∈ ps,eH R.t.length p/\Ok p.1) (hpl:ps.length<=1000) :
 Calls Tryz.prog 99 #[.pointer (some ⟨rb,0,none⟩),.agg (bF x (.slice none 0 0)),pv] w fun e w'=>∃ kv,e=.returned (.tuple #[.agg (bF (fE d R x ps).2.2 kv),.int .i64 (fE d R x ps).2.1])/\w'.ownsRow w.heap.size 3 1 kv (fE d R x ps).2.2.kd.length (kW (fE d R x ps).2.2.kd)/\∃ v' bH bI,(∀ k,kv.ownBlock=some k->¬ Kb bI k)/\Rn w' base rb pm b m v' bH bI B (fE d R x ps).1/\gJ w w' rb pm b m v sv kvs v' bH bI:=by
 obtain⟨pp,pc,rfl⟩:=hps.form
 have HG:=show Hid (2<w.heap.size) from Bt.qL hR.tz
 have HD:=show Hid (yG base rb pm b m B n d) from hD
 have BM:=show Hid (qD B d) from hd
 have HL:=show Hid (∀ s ∈ ps,s.1.length=16) from fun s hs=>(hrg s hs).2.1
 have hx16:=hx.1
 obtain⟨P,hP⟩:∃ P,P=fE d R x ps:=⟨_,rfl⟩
 rw[<- hP]
 have HP:=show Hid (P=fE d R x ps) from hP
 clear hP
 go_enter Tryz.func99,Tryz.ntmps99
 go_wp2_with (refine aC 102 _ rfl _ rfl rfl ?_)
 intro w1 b4 hn1
 go_wp2_with (refine aN 102 rfl _ uo rfl ?_)
 intro w2 b6 hn2
 have H2:=show Hid (FL w w2 base rb pm b m v sv kvs v sv kvs B R b4 b6 x (.slice none 0 0) (.slice pp ps.length pc) ps) from(by
  have e1:=hn1.ge;have e2:=hn1.up;have e3:=hn2.ge;have e4:=hn2.eq;have e5:=hn1.eq
  have hb:=cO hn1.av hn2
  refine⟨hR.later hb,gJ.of_below hb,Cl.new hn1.blk hn2,hn2.blk,by omega,by omega,by omega,fun e => ?_,fun e => ?_,⟨by rw[hk];rfl,Or.inl ⟨rfl,by rw[hk];rfl⟩⟩,fun k e=>(by cases e),hps.later hb⟩
  ·have:=(hR.gy.blk e).2.1;omega
  ·have:=(hR.gy.blk e).2.1;omega)
 clear hn1 hn2 hR hps
 have QD:=show Hid (∀ p ∈ ps,eH R.t.length p/\Ok p.1) from hrg
 have vw:=show Hid (Gs B n R) from hG
 clear hG hrg hD hd
 go_wp2_with fail
 go_loopw [14] (fun iv wr=>∃ (i:Nat) (R':Rs) (x':Stp) (kv v' bH:Value) (bI:List Value),i<=ps.length/\iv=.int .i64 (i:Int)/\Hid (P=fE d R' x' (ps.drop i))/\Hid (FL w wr base rb pm b m v sv kvs v' bH bI B R' b4 b6 x' kv (.slice pp ps.length pc) ps)/\Hid (Gs B n R')/\Hid (Ext R.t R'.t)/\x'.s.1.length=16/\Hid (x'.kd.length=i)) (fun iv _=>ps.length - (intOf iv).toNat)
 case atStart=>exact⟨0,R,x,_,_,_,_,by omega,rfl,HP,H2,vw,Ext.refl _,hx16,show x.kd.length=0 from by rw[hk];rfl⟩
 case round=>
  obtain⟨i,R',x',kv,v',bH,bI,hi,rfl,aR,HF,HG2,HE,hx2,Wh⟩:=hrel
  clear HP H2 vw
  by_cases hlt:i<ps.length
  ·have hil:(i:Int)<(ps.length:Int):=by omega
   obtain⟨q,rfl,hin⟩:=HF.out.sq.at HL.out hlt
   have uw:=QD.out _ (List.getElem_mem hlt)
   have Av:=uw.2.1
   have Nb:=show Hid _ from hin
   have Hy:=show Hid (eH R'.t.length ps[i]/\Ok ps[i].1) from⟨jr HE.out uw.1,uw.2⟩
   have hp3:P=fE d R' x' (ps[i] :: ps.drop (i+1)):=by rw[aR.out,List.drop_eq_getElem_cons hlt]
   have dS:=show Hid (P=fE d R' x' (ps[i] :: ps.drop (i+1))) from hp3
   clear hin uw aR hp3
   generalize ps[i]=p at *
   go_wp2_with (first|(refine zL _ rfl _ rfl q _ rfl Nb.out Av ?_)|(refine aN 53 rfl _ SL rfl ?_))
   intro w3 b9 aL
   go_wp2_with (refine aQ 53 rfl rfl _ _ rfl b9 rfl (au p.1 p.2) rfl (au Bt.Bs.zero 0) 53 aL.blk (by rw[wU,iM Av]) (by rw[iM Av];rfl) (uK _ _) ?_)
   intro w4 sG kD
   have hb4:Below wr.heap.size wr w4:=bR aL.av kD aL.ge
   have H4:=show Hid (FL w w4 base rb pm b m v sv kvs v' bH bI B R' b4 b6 x' kv (.slice (some ⟨q,0,none⟩) ps.length pc) ps/\bM w4 b9 p.1 p.2) from⟨HF.out.later hb4,sG⟩
   clear HF aL sG kD hb4 Nb
   have KD:=show Hid _ from HD.out w4 v' bH bI R' p H4.out.1.rn HG2.out.gd HG2.out.vs HG2.out.st HG2.out.fu Hy.out.1 Hy.out.2
   have HS:=show Hid (wJ B R' p (d R' p)/\Gs B n (d R' p).1) from⟨BM.out R' p HG2.out.gd HG2.out.vs Hy.out.1 Hy.out.2,HG2.out.dec BM.out Hy.out.1 Hy.out.2⟩
   have hfo:fE d R' x' (p :: ps.drop (i+1))=if (d R' p).2.1≠0 then ((d R' p).1,(d R' p).2.1,fF)
  else if ((d R' p).1.st.getD (d R' p).2.2 fF).pv=false then ((d R' p).1,0,{ x' with kd:=[(d R' p).2.2] })
  else fE d (d R' p).1 { x' with kd:=x'.kd ++ [(d R' p).2.2] } (ps.drop (i+1)):=rfl
   rw[hfo] at dS
   clear hfo
   generalize hq:d R' p=qd at *
   clear hq
   go_wp2_with (refine dU _ _ rfl b9 rfl H4.out.2 Av rfl ?_)
   refine Calls.mono KD.out ?_
   rintro e w5 ⟨rfl,v5,Hz,oZ,nN,nO⟩
   have H5:=show Hid (FL w w5 base rb pm b m v sv kvs v5 Hz oZ B qd.1 b4 b6 x' kv (.slice (some ⟨q,0,none⟩) ps.length pc) ps) from H4.out.1.call nN nO
   clear nN nO H4 KD
   by_cases he:qd.2.1=0
   ·have EP:(qd.2.1 != 0)=false:=by rw[he];rfl
    obtain⟨y,hy,hys,Nc⟩:=HS.out.1.at he
    obtain⟨gs,cs,rfl,hpc⟩:=H5.out.rn.gy.pv hy
    have ZR:=(List.getElem?_eq_some_iff.1 hy).1
    have c3:=H5.out.rn.run.cell 3
    have Vk:(qd.2.2:Int)<(qd.1.st.length:Int):=by omega
    have hgd:=getD_some hy fF
    rw[if_neg (by rw[he];simp),hgd] at dS
    simp only[List.getElem?_toArray,List.getElem?_cons_succ,List.getElem?_cons_zero] at c3
    clear hgd
    cases hpv:y.pv with
    | false=>
     rw[hpv] at hpc dS
     rw[if_pos rfl] at dS
     clear hpv Nc
     go_wp2_with (refine jM rfl _ rfl _ rfl ?_)
     intro w6 q6 jH
     have hsz:=H5.out.af.kp.size
     have hge:=jH.ge
     have H6:=show Hid _ from H5.out.later jH.av
     have YR:=show Hid (w6.ownsRow w.heap.size 3 1 (.slice (some ⟨q6,0,none⟩) 1 1) [qd.2.2].length (kW [qd.2.2])) from PX jH (by omega)
     have YS:=show Hid (∀ k,(Value.slice (some ⟨q6,0,none⟩) 1 1).ownBlock=some k->¬ Kb oZ k) from fun k e hb=>by
      obtain rfl:q6=k:=Option.some.inj e
      have:=(H5.out.rn.gy.kb hb).2.1
      omega
     clear jH hge hsz H5 c3 hpc
     go_wp2_with (refine uT rfl rfl _ _ rfl b4 rfl (some ⟨q6,0,none⟩) 1 1 rfl hx2 H6.out.c4 [qd.2.2] ?_)
     intro w7 mF iI
     have H7:=show Hid _ from H6.out.vW (x':={ x' with kd:=[qd.2.2] }) mF iI YR.out YS.out HG.out
     clear mF iI H6 YR
     go_wp2_with (first|(refine sZ _ rfl b4 rfl (s:={ x' with kd:=[qd.2.2] }) hx2 H7.out.c4 rfl ?_)|(refine iA rfl rfl _ _ rfl b6 rfl (s:={ x' with kd:=[qd.2.2] }) hx2 rfl rfl rfl H7.out.c6 ?_))
     intro w8 hc8 gI
     obtain⟨nI,uy,ER⟩:=H7.out.vX gI HG.out
     obtain rfl:=dS.out
     clear dS H7
     go_wp2_with fail
     refine bodyPost_ret (gH rfl _ _ b6 rfl hc8 (dO (x:={ x' with kd:=[qd.2.2] }) hx2 _)) rfl ?_
     exact⟨_,rfl,ER,v5,_,oZ,YS.out,nI,uy⟩
    | true=>
     rw[hpv] at hpc dS
     rw[if_neg (by simp)] at dS
     clear hpv Nc
     have c20:=(BL hx2 H5.out.c4).1
     go_wp2_with (refine jM rfl _ rfl _ rfl ?_)
     intro w6 q6 jH
     have H6:=show Hid _ from H5.out.later jH.av
     have hcq:w6.cell? ⟨q6,0,none⟩=some (.int .i64 (qd.2.2:Int)):=Cl.cell jH.blk 0
     obtain⟨i0,hi0,hz0,hz1,hz2⟩:=info_parts qW
     have ES:=Wh.out
     have hsz:=H6.out.af.kp.size
     clear jH H5 c3 hpc c20
     go_wp2_with (at_builtin;refine wpList_append_own_at _ rfl (.tmp 42) (.tmp 44) 37 rfl w.heap.size 3 i0 (.int .i64 0) 1 8 Tryz.underlying37 hi0 hz0 hz1 hz2 rfl (by decide) kv x'.kd.length (kW x'.kd) rfl H6.out.kd ⟨q6,0,none⟩ 1 1 [.int .i64 (qd.2.2:Int)] rfl rfl (lN hcq) (by intro u hu;simp at hu;subst hu;rfl) (by unfold maxLen;omega) (by omega) hsz ?_)
     intro zM w7 sO ET _ yH
     have hln:x'.kd.length+1=(x'.kd ++ [qd.2.2]).length:=by simp
     have zN:=show Hid (w7.ownsRow w.heap.size 3 1 zM (x'.kd ++ [qd.2.2]).length (kW (x'.kd ++ [qd.2.2]))/\w6.grownBy w7 kv.ownBlock/\(zM.ownBlock=kv.ownBlock\/zM.ownBlock=some w6.heap.size)) from⟨by rw[EO,<- hln,ES];exact sO,ET,yH⟩
     have C7:=show Hid _ from H6.out.JL ET
     obtain⟨p7,n7,c7,rfl⟩:∃ p n c,zM=.slice p n c:=by
      rcases sO.2 with ⟨h1,_⟩ | ⟨g,cap,cur,h1,_⟩
      ·exact⟨_,_,_,h1⟩
      ·exact⟨_,_,_,h1⟩
     clear sO ET yH hcq hi0 hz0 hz1 hz2 hln
     go_wp2_with (refine uT rfl rfl _ _ rfl b4 rfl p7 n7 c7 rfl hx2 C7.out (x'.kd ++ [qd.2.2]) ?_)
     intro w8 hc8 gI
     have H8:=show Hid _ from H6.out.Wd zN.out.2.1 (x':={ x' with kd:=x'.kd ++ [qd.2.2] }) zN.out.1 zN.out.2.2 hc8 gI HG.out
     have Wi:=show Hid (Ext R.t qd.1.t) from HE.out.trans HS.out.1.ext
     have Wj:=show Hid (Gs B n qd.1) from HS.out.2
     clear hc8 gI H6 zN C7 HE HG2 HS
     go_wp2_with fail
     go_roundw
     case rel=>exact⟨i+1,_,_,_,_,_,_,by omega,by go_num,dS,H8,Wj,Wi,hx2,show(x'.kd ++ [qd.2.2]).length=i+1 from by rw[List.length_append,ES];rfl⟩
     case measure=>first|(simp[intOf];done)|(simp[intOf];omega)
   ·have EP:(qd.2.1 != 0)=true:=by simpa using he
    rw[if_pos he] at dS
    go_wp2_with (first|(refine oD rfl rfl ?_)|(refine iA rfl rfl _ _ rfl b6 rfl (s:=fF) rfl rfl rfl rfl H5.out.c6 ?_))
    intro w8 hc8 gI
    obtain⟨nI,uy,_⟩:=H5.out.vX gI HG.out
    obtain rfl:=dS.out
    clear dS H5
    go_wp2_with fail
    refine bodyPost_ret (gH rfl _ _ b6 rfl hc8 (dO (x:=fF) rfl _)) rfl ?_
    exact⟨_,rfl,rT,v5,_,oZ,fun k e=>(by cases e),nI,uy⟩
  ·have hil:¬ (i:Int)<(ps.length:Int):=by omega
   have hp3:P=(R',0,{ x' with pv:=true }):=by rw[aR.out,List.drop_of_length_le (by omega)];rfl
   clear aR
   go_wp2_with (refine JK rfl rfl _ _ rfl b4 rfl true rfl hx2 HF.out.c4 ?_)
   intro w7 mF iI
   have H7:=show Hid _ from HF.out.vW (x':={ x' with pv:=true }) mF iI HF.out.kd HF.out.kn HG.out
   clear mF iI HF
   go_wp2_with (first|(refine sZ _ rfl b4 rfl (s:={ x' with pv:=true }) hx2 H7.out.c4 rfl ?_)|(refine iA rfl rfl _ _ rfl b6 rfl (s:={ x' with pv:=true }) hx2 (nD H7.out.kd) rfl rfl H7.out.c6 ?_))
   intro w8 hc8 gI
   obtain⟨nI,uy,ER⟩:=H7.out.vX gI HG.out
   have Wm:=H7.out.kn
   subst hp3
   clear H7
   go_wp2_with fail
   refine bodyPost_ret (gH rfl _ _ b6 rfl hc8 (dO (x:={ x' with pv:=true }) hx2 _)) rfl ?_
   exact⟨_,rfl,ER,v',_,bI,Wm,nI,uy⟩
def JM (w:World) (base rb pm b m:Nat) (v sv:Value) (kvs:List Value) (B:Nat) (Q:Rs × Int × Stp) (e:Ending) (w':World):Prop:=∃ kv,e=.returned (.tuple #[.agg (bF Q.2.2 kv),.int .i64 Q.2.1])/\w'.ownsRow w.heap.size 3 1 kv Q.2.2.kd.length (kW Q.2.2.kd)/\∃ v' bH bI,(∀ k,kv.ownBlock=some k->¬ Kb bI k)/\Rn w' base rb pm b m v' bH bI B Q.1/\gJ w w' rb pm b m v sv kvs v' bH bI
def PY (base rb pm b m B n:Nat) (d:lX):Prop:=∀ (w:World) (v sv:Value) (kvs:List Value) (R:Rs) (s:SQ),Rn w base rb pm b m v sv kvs B R->Gs B n R->eH R.t.length s->Ok s.1->(aZ R.t s.1 s.2).1=14 ->
 Calls Tryz.prog 97 #[.pointer (some ⟨rb,0,none⟩),.agg (au s.1 s.2)] w fun e w'=>JM w base rb pm b m v sv kvs B (lg d s R (fT R.t s.1 s.2) []) e w'
structure EL (w0 W:World) (base rb pm b m:Nat) (v0 sv0:Value) (dW:List Value) (v sv:Value) (kvs:List Value) (B:Nat) (R:Rs) (b3 b4:Nat) (s:SQ):Prop where
 rn:Rn W base rb pm b m v sv kvs B R
 af:gJ w0 W rb pm b m v0 sv0 dW v sv kvs
 s3:bM W b3 s.1 s.2
 c4:Cl W b4 (bF fF (.slice none 0 0)) 102
 g4:w0.heap.size<=b4
 n4:sv.ownBlock≠some b4
section
variable {w0 W W':World} {base rb pm b m:Nat} {v0 sv0 v sv v' bH:Value} {dW kvs bI:List Value} {B:Nat} {R R':Rs} {b3 b4:Nat} {s:SQ}
theorem EL.call (h:EL w0 W base rb pm b m v0 sv0 dW v sv kvs B R b3 b4 s) (hr:Rn W' base rb pm b m v' bH bI B R') (ha:gJ W W' rb pm b m v sv kvs v' bH bI):EL w0 W' base rb pm b m v0 sv0 dW v' bH bI B R' b3 b4 s:=by
 have n4:=h.rn.other h.c4 (by decide) (by decide) (by decide) (Or.inr h.n4)
 have n3:=h.rn.other h.s3 (by decide) (by decide) (by decide) (Or.inl (by decide))
 refine⟨hr,h.af.trans ha,ha.cl h.s3 n3,ha.cl h.c4 n4,h.g4,fun e => ?_⟩
 rcases ha.ls b4 e with e | e
 ·exact h.n4 e
 ·have:=h.c4.lt;omega
theorem EL.later (h:EL w0 W base rb pm b m v0 sv0 dW v sv kvs B R b3 b4 s) (hb:Below W.heap.size W W'):EL w0 W' base rb pm b m v0 sv0 dW v sv kvs B R b3 b4 s:=h.call (h.rn.later hb) (gJ.of_below hb)
theorem EL.drew (h:EL w0 W base rb pm b m v0 sv0 dW v sv kvs B R b3 b4 s):EL w0 W.drew base rb pm b m v0 sv0 dW v sv kvs B R b3 b4 s:=h.later (Below.refl _ _).drew
theorem EL.table (h:EL w0 W base rb pm b m v0 sv0 dW v sv kvs B R b3 b4 s) {t':List Nd} (ha:After W b m v t' W'):∃ v',EL w0 W' base rb pm b m v0 sv0 dW v' sv kvs B ⟨t',R.st,R.vs⟩ b3 b4 s:=by
 obtain⟨v',h1,h2⟩:=h.rn.table ha
 exact⟨v',h.call h1 h2⟩
theorem EL.vW (h:EL w0 W base rb pm b m v0 sv0 dW v sv kvs B R b3 b4 s) (hk:dn b4 W W') (hG:2<w0.heap.size):Rn W' base rb pm b m v sv kvs B R/\gJ w0 W' rb pm b m v0 sv0 dW v sv kvs:=by
 have n4:=h.rn.other h.c4 (by decide) (by decide) (by decide) (Or.inr h.n4)
 have e4:=h.g4
 exact⟨h.rn.own n4 (h.rn.gy.BK h.c4 (by decide)) (by omega) hk,⟨h.af.lv,h.af.ls,h.af.lk,h.af.kp.trans (S':=fun k=>k=b4) hk (fun i hi=>Or.inr (by omega))⟩⟩
theorem Nf {w w1 w2:World} {s:SQ} (hR:Rn w base rb pm b m v sv kvs B R) (hn1:New w w1 b3 (au s.1 s.2) 53) (hn2:New w1 w2 b4 (bF fF (.slice none 0 0)) 102):EL w w2 base rb pm b m v sv kvs v sv kvs B R b3 b4 s:=by
 have e1:=hn1.ge;have e2:=hn1.up;have e3:=hn2.ge;have e4:=hn2.eq;have e5:=hn1.eq
 have hb:=cO hn1.av hn2
 refine⟨hR.later hb,gJ.of_below hb,Cl.new hn1.blk hn2,hn2.blk,by omega,fun e => ?_⟩
 have:=(hR.gy.blk e).2.1;omega
theorem wL {W W':World} {base base' k n:Nat} {kv:Value} {xs:List Value} (ho:W.ownsRow base 3 1 kv n xs) (hb:base'<=base) {cs:Array Value} (hc:Cl W k cs 102) (hk:dn k W W'):W'.ownsRow base' 3 1 kv n xs:=lT (bD ho fun i e=>by
 obtain⟨_,h2,cur,hcc⟩:=aP ho i e
 refine hk.block i h2 (fun e2 => ?_)
 subst e2
 exact absurd (gF hcc hc) (by decide)) hb
end
theorem Aw {d:lX}:∀ (ps:List SQ) (R:Rs) (x:Stp),x.s.1.length=16->(fE d R x ps).2.2.s.1.length=16
 | [],R,x,h=>h
 | p :: ps,R,x,h=>by
  unfold fE
  split
  ·rfl
  ·split
   ·exact h
   ·exact Aw ps _ _ h
theorem Ay {d:lX} {s:SQ} (h:s.1.length=16):∀ (cs:List (Int × Int)) (R:Rs) (ks:List Nat),(lg d s R cs ks).2.2.s.1.length=16
 | [],R,ks=>h
 | c :: cs,R,ks=>by
  unfold lg
  split
  ·rfl
  ·split
   ·rfl
   ·split
    ·exact Aw _ _ _ h
    ·exact Ay h cs _ _
theorem Ia {B n:Nat} {d:lX} (_hd:qD B d) {R:Rs} (_hG:Gs B n R) {s:SQ} (_hq:eH R.t.length s) (hr:Ok s.1) {P:Rs × Int × Stp} (hP:P=jF d R s):P.2.2.s.1.length=16:=by
 subst hP
 unfold jF
 split
 ·rfl
 ·split
  ·exact Ay hr.1 _ _ _
  ·split
   ·rfl
   ·exact Aw _ _ _ hr.1
theorem SV {base rb pm b m B n:Nat} {d:lX} (hD:yG base rb pm b m B n d) (hd:qD B d) (hC:PY base rb pm b m B n d) (w:World) {v sv:Value} {kvs:List Value} {R:Rs} (hR:Rn w base rb pm b m v sv kvs B R) (hG:Gs B n R) {s:SQ} (hq:eH R.t.length s) (hr:Ok s.1) :
 Calls Tryz.prog 69 #[.pointer (some ⟨rb,0,none⟩),.agg (au s.1 s.2)] w fun e w'=>JM w base rb pm b m v sv kvs B (jF d R s) e w':=by
 have hl:=hr.1
 have xS:=show Hid (2<w.heap.size) from Bt.qL hR.tz
 have HD:=show Hid (yG base rb pm b m B n d) from hD
 have BM:=show Hid (qD B d) from hd
 have HC:=show Hid (PY base rb pm b m B n d) from hC
 have vw:=show Hid (Gs B n R) from hG
 have HQ:=show Hid (eH R.t.length s/\Ok s.1) from⟨hq,hr⟩
 obtain⟨P,hP⟩:∃ P,P=jF d R s:=⟨_,rfl⟩
 rw[<- hP]
 have HP:=show Hid (P=jF d R s) from hP
 have hz0:eP R.t s.1 s.2=0:=iy hr hq
 have HA:=show Hid ((aZ R.t s.1 s.2).1≠14->findF R.t s.1 s.2 (aZ R.t s.1 s.2).1 (aZ R.t s.1 s.2).2=true) from uR hG.gd.ok hr hz0
 have KA:=show Hid (∀ W:World,∀ v':Value,Tb W b m v' R.t->Bt.Tz W->Calls Tryz.prog 32 #[.pointer (some ⟨b,0,none⟩),.agg (au s.1 s.2)] W fun e w'=>e=.returned (.tuple #[.int .i64 (aZ R.t s.1 s.2).1,.int .i64 (aZ R.t s.1 s.2).2,.int .i64 0])/\Below W.heap.size W w') from fun W v' h1 h2=>by
  have h:=wF W h1 h2 hr s.2
  rw[hz0,if_pos rfl,if_pos rfl] at h
  exact h
 have QE:=show Hid (jF d R s=if (aZ R.t s.1 s.2).1=14 then lg d s R (fT R.t s.1 s.2) []
 else if (aO R.t s.1 s.2 (aZ R.t s.1 s.2).1 (aZ R.t s.1 s.2).2).2.2≠0 then (⟨(aO R.t s.1 s.2 (aZ R.t s.1 s.2).1 (aZ R.t s.1 s.2).2).2.1,R.st,R.vs⟩,(aO R.t s.1 s.2 (aZ R.t s.1 s.2).1 (aZ R.t s.1 s.2).2).2.2,fF)
 else fE d ⟨(aO R.t s.1 s.2 (aZ R.t s.1 s.2).1 (aZ R.t s.1 s.2).2).2.1,R.st,R.vs⟩ ⟨s,false,(aZ R.t s.1 s.2).1,(aZ R.t s.1 s.2).2,[]⟩ (aO R.t s.1 s.2 (aZ R.t s.1 s.2).1 (aZ R.t s.1 s.2).2).1) from by
  unfold jF
  rw[hz0,if_neg (by simp)]
  exact rfl
 have Ib:=show Hid (P.2.2.s.1.length=16) from Ia hd hG hq hr hP
 clear hP hz0 hG hD hd hC hq
 generalize hap:aZ R.t s.1 s.2=ap at *
 go_enter Tryz.func69,Tryz.ntmps69
 go_wp2_with (refine aC 53 _ rfl _ rfl rfl ?_)
 intro w1 b3 hn1
 go_wp2_with (refine aN 102 rfl _ uo rfl ?_)
 intro w2 b4 hn2
 have H2:=show Hid (EL w w2 base rb pm b m v sv kvs v sv kvs B R b3 b4 s) from Nf hR hn1 hn2
 clear hn1 hn2 hR hr
 go_wp2_with fail
 refine iD (by kernel_rfl) 5 [some 11,some 12,some 13,some 14,some 15,some 16,some 10,some 17,some 18,some 19,some 6,some 7,some 8] [[],[0],[1],[2],[],[3,4],[5],[6],[6],[6],[7],[8],[9]] [[],[0],[1,0],[2,1,0],[],[3,2,1,0,4],[5,3,2,1,0,4],[6,5,3,2,1,0,4],[6,5,3,2,1,0,4],[6,5,3,2,1,0,4],[7,6,5,3,2,1,0,4],[8,6,5,3,2,1,0,4],[9,6,5,3,2,1,0,4]] (by kernel_rfl) (by decide) (fun ii vv w1=>match ii with | 0=>vv=.pointer (some ⟨rb,0,none⟩) | 1=>vv=.pointer (some ⟨rb,0,none⟩) | 2=>vv=.pointer (some ⟨rb,0,none⟩) | 3=>vv=.pointer (some ⟨b,0,none⟩) | 4=>vv=.agg (au s.1 s.2) | 5=>vv=.tuple #[.int .i64 ap.1,.int .i64 ap.2,.int .i64 0]/\Below w2.drew.heap.size w2.drew w1 | 6=>vv=.tuple #[.int .i64 ap.1,.int .i64 ap.2,.int .i64 0] | 7=>vv=.int .i64 ap.1 | 8=>vv=.int .i64 ap.2 | 9=>vv=.int .i64 0 | 10=>vv=.int .i64 ap.1 | 11=>vv=.int .i64 ap.2 | 12=>vv=.int .i64 0 | _=>True) ?hfree (dL 13 ?steps) ?fin
 case hfree=>
  intro j v w1 w2 hj hn h
  match j,h,hj,hn with
  | 0,h,_,_=>exact h
  | 1,h,_,_=>exact h
  | 2,h,_,_=>exact h
  | 3,h,_,_=>exact h
  | 4,h,_,_=>exact h
  | 5,_,hj,_=>exact absurd rfl hj
  | 6,_,_,hn=>exact absurd (by decide) hn
  | 7,_,_,hn=>exact absurd (by decide) hn
  | 8,_,_,hn=>exact absurd (by decide) hn
  | 9,_,_,hn=>exact absurd (by decide) hn
  | 10,_,_,hn=>exact absurd (by decide) hn
  | 11,_,_,hn=>exact absurd (by decide) hn
  | 12,_,_,hn=>exact absurd (by decide) hn
  | _+13,_,_,_=>trivial
 case steps=>
  refine⟨⟨⟨⟨⟨⟨⟨⟨⟨⟨⟨⟨⟨trivial,?s0⟩,?s1⟩,?s2⟩,?s3⟩,?s4⟩,?s5⟩,?s6⟩,?s7⟩,?s8⟩,?s9⟩,?s10⟩,?s11⟩,?s12⟩
  case s0=>
   intro a w1 hw hO hN
   obtain rfl:w1=w2.drew:=hw (by decide)
   have o0:a.tmps[0]?=some (.pointer (some ⟨rb,0,none⟩)):=outs hO 0 rfl
   exact ah rfl (.pointer (some ⟨rb,0,none⟩)) _ rfl (by go_simp) ⟨_,rfl,rfl,fun _=>rfl⟩
  case s1=>
   intro a w1 hw hO hN
   obtain rfl:w1=w2.drew:=hw (by decide)
   obtain⟨v0,g0,r0⟩:=aj hN 0 11
   have e0:v0=.pointer (some ⟨rb,0,none⟩):=r0
   rw[e0] at g0
   exact ah rfl (.pointer (some ⟨rb,0,none⟩)) _ rfl (by go_simp) ⟨_,rfl,rfl,fun _=>rfl⟩
  case s2=>
   intro a w1 hw hO hN
   obtain rfl:w1=w2.drew:=hw (by decide)
   obtain⟨v1,g1,r1⟩:=aj hN 1 12
   have e1:v1=.pointer (some ⟨rb,0,none⟩):=r1
   rw[e1] at g1
   exact ah rfl (.pointer (some ⟨rb,0,none⟩)) _ rfl (by go_simp) ⟨_,rfl,rfl,fun _=>rfl⟩
  case s3=>
   intro a w1 hw hO hN
   obtain rfl:w1=w2.drew:=hw (by decide)
   obtain⟨v2,g2,r2⟩:=aj hN 2 13
   have e2:v2=.pointer (some ⟨rb,0,none⟩):=r2
   rw[e2] at g2
   have hc:w2.drew.cell? ⟨rb,0,none⟩=some (.pointer (some ⟨b,0,none⟩)):=H2.out.drew.rn.run.cell 0
   exact ah rfl (.pointer (some ⟨b,0,none⟩)) _ rfl (by go_simp) ⟨_,rfl,rfl,fun _=>rfl⟩
  case s4=>
   intro a w1 hw hO hN
   obtain rfl:w1=w2.drew:=hw (by decide)
   have o3:a.tmps[3]?=some (.pointer (some ⟨b3,0,none⟩)):=outs hO 3 rfl
   have hl:=pU w2.drew b3 H2.out.drew.s3 hl
   exact ah rfl (.agg (au s.1 s.2)) _ rfl (by simp[execOp,Act.eval,o3,hl,Result.andThen]) ⟨_,rfl,rfl,fun _=>rfl⟩
  case s5=>
   intro a w1 hw hO hN
   obtain rfl:w1=w2.drew:=hw (by decide)
   obtain⟨v3,g3,r3⟩:=aj hN 3 14
   have e3:v3=.pointer (some ⟨b,0,none⟩):=r3
   rw[e3] at g3
   obtain⟨v4,g4,r4⟩:=aj hN 4 15
   have e4:v4=.agg (au s.1 s.2):=r4
   rw[e4] at g4
   refine aW rfl rfl 32 [.tmp 14,.tmp 15] #[28,53] rfl [.pointer (some ⟨b,0,none⟩),.agg (au s.1 s.2)] (by simp[Act.eval,g3,g4]) (enters_of Tryz.func32 (by kernel_rfl) rfl) (Calls.mono (KA.out w2.drew v H2.out.drew.rn.tb H2.out.drew.rn.tz) ?_)
   rintro e w3 ⟨rfl,hb⟩
   exact⟨_,rfl,_,rfl,⟨rfl,hb⟩,fun h=>absurd rfl h⟩
  case s6=>
   intro a w1 hw hO hN
   obtain⟨v5,g5,r5⟩:=aj hN 5 16
   obtain⟨rfl,_⟩:=r5
   exact ah rfl (.tuple #[.int .i64 ap.1,.int .i64 ap.2,.int .i64 0]) _ rfl (by go_simp) ⟨_,rfl,rfl,fun _=>rfl⟩
  case s7=>
   intro a w1 hw hO hN
   obtain⟨v6,g6,r6⟩:=aj hN 6 10
   have e6:v6=.tuple #[.int .i64 ap.1,.int .i64 ap.2,.int .i64 0]:=r6
   rw[e6] at g6
   exact ah rfl (.int .i64 ap.1) _ rfl (by go_simp) ⟨_,rfl,rfl,fun _=>rfl⟩
  case s8=>
   intro a w1 hw hO hN
   obtain⟨v6,g6,r6⟩:=aj hN 6 10
   have e6:v6=.tuple #[.int .i64 ap.1,.int .i64 ap.2,.int .i64 0]:=r6
   rw[e6] at g6
   exact ah rfl (.int .i64 ap.2) _ rfl (by go_simp) ⟨_,rfl,rfl,fun _=>rfl⟩
  case s9=>
   intro a w1 hw hO hN
   obtain⟨v6,g6,r6⟩:=aj hN 6 10
   have e6:v6=.tuple #[.int .i64 ap.1,.int .i64 ap.2,.int .i64 0]:=r6
   rw[e6] at g6
   exact ah rfl (.int .i64 0) _ rfl (by go_simp) ⟨_,rfl,rfl,fun _=>rfl⟩
  case s10=>
   intro a w1 hw hO hN
   obtain⟨v7,g7,r7⟩:=aj hN 7 17
   have e7:v7=.int .i64 ap.1:=r7
   rw[e7] at g7
   exact ah rfl (.int .i64 ap.1) _ rfl (by go_simp) ⟨_,rfl,rfl,fun _=>rfl⟩
  case s11=>
   intro a w1 hw hO hN
   obtain⟨v8,g8,r8⟩:=aj hN 8 18
   have e8:v8=.int .i64 ap.2:=r8
   rw[e8] at g8
   exact ah rfl (.int .i64 ap.2) _ rfl (by go_simp) ⟨_,rfl,rfl,fun _=>rfl⟩
  case s12=>
   intro a w1 hw hO hN
   obtain⟨v9,g9,r9⟩:=aj hN 9 19
   have e9:v9=.int .i64 0:=r9
   rw[e9] at g9
   exact ah rfl (.int .i64 0) _ rfl (by go_simp) ⟨_,rfl,rfl,fun _=>rfl⟩
 case fin=>
  intro vs W1 hV
  have e6:vs 6=.tuple #[.int .i64 ap.1,.int .i64 ap.2,.int .i64 0]:=hV 6 (by decide)
  have e7:vs 7=.int .i64 ap.1:=hV 7 (by decide)
  have e8:vs 8=.int .i64 ap.2:=hV 8 (by decide)
  have e9:vs 9=.int .i64 0:=hV 9 (by decide)
  have e10:vs 10=.int .i64 ap.1:=hV 10 (by decide)
  have e11:vs 11=.int .i64 ap.2:=hV 11 (by decide)
  have e12:vs 12=.int .i64 0:=hV 12 (by decide)
  obtain⟨e5,hb5⟩:vs 5=.tuple #[.int .i64 ap.1,.int .i64 ap.2,.int .i64 0]/\Below w2.drew.heap.size w2.drew W1:=hV 5 (by decide)
  have H3:=show Hid _ from H2.out.drew.later hb5
  clear hb5 H2 hV
  simp only[bn,Act.put,List.setIfInBounds_toArray,List.set_cons_zero,List.set_cons_succ,e10,e11,e12]
  clear e5 e6 e7 e8 e9 e10 e11 e12
  by_cases iw:ap.1=14
  ·have hp:P=lg d s R (fT R.t s.1 s.2) []:=by rw[HP.out,QE.out,if_pos iw]
   have KC:=show Hid _ from HC.out W1 v sv kvs R s H3.out.rn vw.out HQ.out.1 HQ.out.2 (by rw[hap];exact iw)
   rw[<- hp] at KC
   have hbk:(ap.1 == 14)=true:=by rw[iw];rfl
   clear hp HP QE hap
   go_wp2_with (refine dU _ _ rfl b3 rfl H3.out.s3 hl rfl ?_)
   refine Calls.mono KC.out ?_
   rintro e w4 ⟨kv,rfl,Ng,v4,YT,P5,fV,Bo,YU⟩
   have H4:=show Hid (EL w w4 base rb pm b m v sv kvs v4 YT P5 B P.1 b3 b4 s) from H3.out.call Bo YU
   have su:=show Hid (w.heap.size<=W1.heap.size) from H3.out.af.kp.size
   have Nh:=show Hid (w4.ownsRow W1.heap.size 3 1 kv P.2.2.kd.length (kW P.2.2.kd)/\(∀ k,kv.ownBlock=some k->¬ Kb P5 k)/\P.2.2.s.1.length=16) from⟨Ng,fV,Ib.out⟩
   clear Ng fV Bo YU KC H3
   go_wp2_with (refine iA rfl rfl _ _ rfl b4 rfl Nh.out.2.2 (nD Nh.out.1) rfl rfl H4.out.c4 ?_)
   intro w5 jZ hk5
   obtain⟨nN,nO⟩:=H4.out.vW hk5 xS.out
   have hO5:=wL Nh.out.1 su.out H4.out.c4 hk5
   clear H4
   go_wp2_with fail
   refine bodyPost_ret (gH rfl _ _ b4 rfl jZ (dO Nh.out.2.2 _)) rfl ?_
   exact⟨_,rfl,hO5,v4,YT,P5,Nh.out.2.1,nN,nO⟩
  ·have hbk:(ap.1 == 14)=false:=by simpa using iw
   have HF:=show Hid (findF R.t s.1 s.2 ap.1 ap.2=true) from HA.out iw
   have hp:P=if (aO R.t s.1 s.2 ap.1 ap.2).2.2≠0 then (⟨(aO R.t s.1 s.2 ap.1 ap.2).2.1,R.st,R.vs⟩,(aO R.t s.1 s.2 ap.1 ap.2).2.2,fF) else fE d ⟨(aO R.t s.1 s.2 ap.1 ap.2).2.1,R.st,R.vs⟩ ⟨s,false,ap.1,ap.2,[]⟩ (aO R.t s.1 s.2 ap.1 ap.2).1:=by rw[HP.out,QE.out,if_neg iw]
   have aR:=show Hid _ from hp
   have KP:=show Hid (∀ W:World,Tb W b m v R.t->Bt.Tz W->Calls Tryz.prog 98 #[.pointer (some ⟨b,0,none⟩),.agg (au s.1 s.2),.int .i64 ap.1,.int .i64 ap.2] W fun e w'=>∃ sv,e=.returned (.tuple #[sv,.int .i64 (aO R.t s.1 s.2 ap.1 ap.2).2.2])/\iV sv (aO R.t s.1 s.2 ap.1 ap.2).1 w'/\After W b m v (aO R.t s.1 s.2 ap.1 ap.2).2.1 w') from fun W h1 h2=>Ea W h1 h2 HQ.out.2 s.2 ap.1 ap.2
   have Ni:=show Hid ((aO R.t s.1 s.2 ap.1 ap.2).2.2=0->Fm.Ok (aO R.t s.1 s.2 ap.1 ap.2).2.1/\Ext R.t (aO R.t s.1 s.2 ap.1 ap.2).2.1/\(∀ p ∈ (aO R.t s.1 s.2 ap.1 ap.2).1,eH (aO R.t s.1 s.2 ap.1 ap.2).2.1.length p/\Ok p.1)) from fun h0=>by
    obtain⟨a1,a2,a3,_⟩:=nE vw.out.gd.ok HQ.out.2 HQ.out.1 HF.out h0
    exact⟨a1,a2,a3⟩
   have P6:=show Hid ((aO R.t s.1 s.2 ap.1 ap.2).1.length<=2) from(wB (t:=R.t) HQ.out.2 s.2 ap.1 ap.2).2
   clear hp HP QE hap HF HA KA HC
   generalize aO R.t s.1 s.2 ap.1 ap.2=pf at *
   go_wp2_with fail
   refine iD (by kernel_rfl) 7 [some 32,some 33,some 34,some 35,some 36,some 37,some 38,some 39,some 31,some 40,some 41,some 9,some 8] [[],[0],[1],[2],[],[],[],[3,4,5,6],[7],[8],[8],[9],[10]] [[],[0],[1,0],[2,1,0],[],[],[],[3,2,1,0,4,5,6],[7,3,2,1,0,4,5,6],[8,7,3,2,1,0,4,5,6],[8,7,3,2,1,0,4,5,6],[9,8,7,3,2,1,0,4,5,6],[10,8,7,3,2,1,0,4,5,6]] (by kernel_rfl) (by decide) (fun ii vv w1=>match ii with | 0=>vv=.pointer (some ⟨rb,0,none⟩) | 1=>vv=.pointer (some ⟨rb,0,none⟩) | 2=>vv=.pointer (some ⟨rb,0,none⟩) | 3=>vv=.pointer (some ⟨b,0,none⟩) | 4=>vv=.agg (au s.1 s.2) | 5=>vv=.int .i64 ap.1 | 6=>vv=.int .i64 ap.2 | 7=>∃ sv,vv=.tuple #[sv,.int .i64 pf.2.2]/\iV sv pf.1 w1/\After W1.drew b m v pf.2.1 w1 | 8=>∃ sv,vv=.tuple #[sv,.int .i64 pf.2.2]/\iV sv pf.1 w1/\After W1.drew b m v pf.2.1 w1 | 9=>iV vv pf.1 w1/\After W1.drew b m v pf.2.1 w1 | 10=>vv=.int .i64 pf.2.2 | 11=>iV vv pf.1 w1/\After W1.drew b m v pf.2.1 w1 | 12=>vv=.int .i64 pf.2.2 | _=>True) ?hfree (dL 13 ?steps) ?fin
   case hfree=>
    intro j v w1 w2 hj hn h
    match j,h,hj,hn with
    | 0,h,_,_=>exact h
    | 1,h,_,_=>exact h
    | 2,h,_,_=>exact h
    | 3,h,_,_=>exact h
    | 4,h,_,_=>exact h
    | 5,h,_,_=>exact h
    | 6,h,_,_=>exact h
    | 7,_,hj,_=>exact absurd rfl hj
    | 8,_,_,hn=>exact absurd (by decide) hn
    | 9,_,_,hn=>exact absurd (by decide) hn
    | 10,_,_,hn=>exact absurd (by decide) hn
    | 11,_,_,hn=>exact absurd (by decide) hn
    | 12,_,_,hn=>exact absurd (by decide) hn
    | _+13,_,_,_=>trivial
   case steps=>
    refine⟨⟨⟨⟨⟨⟨⟨⟨⟨⟨⟨⟨⟨trivial,?s0⟩,?s1⟩,?s2⟩,?s3⟩,?s4⟩,?s5⟩,?s6⟩,?s7⟩,?s8⟩,?s9⟩,?s10⟩,?s11⟩,?s12⟩
    case s0=>
     intro a w1 hw hO hN
     obtain rfl:w1=W1.drew:=hw (by decide)
     have o0:a.tmps[0]?=some (.pointer (some ⟨rb,0,none⟩)):=outs hO 0 rfl
     exact ah rfl (.pointer (some ⟨rb,0,none⟩)) _ rfl (by go_simp) ⟨_,rfl,rfl,fun _=>rfl⟩
    case s1=>
     intro a w1 hw hO hN
     obtain rfl:w1=W1.drew:=hw (by decide)
     obtain⟨v0,g0,r0⟩:=aj hN 0 32
     have e0:v0=.pointer (some ⟨rb,0,none⟩):=r0
     rw[e0] at g0
     exact ah rfl (.pointer (some ⟨rb,0,none⟩)) _ rfl (by go_simp) ⟨_,rfl,rfl,fun _=>rfl⟩
    case s2=>
     intro a w1 hw hO hN
     obtain rfl:w1=W1.drew:=hw (by decide)
     obtain⟨v1,g1,r1⟩:=aj hN 1 33
     have e1:v1=.pointer (some ⟨rb,0,none⟩):=r1
     rw[e1] at g1
     exact ah rfl (.pointer (some ⟨rb,0,none⟩)) _ rfl (by go_simp) ⟨_,rfl,rfl,fun _=>rfl⟩
    case s3=>
     intro a w1 hw hO hN
     obtain rfl:w1=W1.drew:=hw (by decide)
     obtain⟨v2,g2,r2⟩:=aj hN 2 34
     have e2:v2=.pointer (some ⟨rb,0,none⟩):=r2
     rw[e2] at g2
     have hc:W1.drew.cell? ⟨rb,0,none⟩=some (.pointer (some ⟨b,0,none⟩)):=H3.out.drew.rn.run.cell 0
     exact ah rfl (.pointer (some ⟨b,0,none⟩)) _ rfl (by go_simp) ⟨_,rfl,rfl,fun _=>rfl⟩
    case s4=>
     intro a w1 hw hO hN
     obtain rfl:w1=W1.drew:=hw (by decide)
     have o3:a.tmps[3]?=some (.pointer (some ⟨b3,0,none⟩)):=outs hO 3 rfl
     have hl:=pU W1.drew b3 H3.out.drew.s3 hl
     exact ah rfl (.agg (au s.1 s.2)) _ rfl (by simp[execOp,Act.eval,o3,hl,Result.andThen]) ⟨_,rfl,rfl,fun _=>rfl⟩
    case s5=>
     intro a w1 hw hO hN
     obtain rfl:w1=W1.drew:=hw (by decide)
     have o6:a.tmps[6]?=some (.int .i64 ap.1):=outs hO 6 rfl
     exact ah rfl (.int .i64 ap.1) _ rfl (by go_simp) ⟨_,rfl,rfl,fun _=>rfl⟩
    case s6=>
     intro a w1 hw hO hN
     obtain rfl:w1=W1.drew:=hw (by decide)
     have o7:a.tmps[7]?=some (.int .i64 ap.2):=outs hO 7 rfl
     exact ah rfl (.int .i64 ap.2) _ rfl (by go_simp) ⟨_,rfl,rfl,fun _=>rfl⟩
    case s7=>
     intro a w1 hw hO hN
     obtain rfl:w1=W1.drew:=hw (by decide)
     obtain⟨v3,g3,r3⟩:=aj hN 3 35
     have e3:v3=.pointer (some ⟨b,0,none⟩):=r3
     rw[e3] at g3
     obtain⟨v4,g4,r4⟩:=aj hN 4 36
     have e4:v4=.agg (au s.1 s.2):=r4
     rw[e4] at g4
     obtain⟨v5,g5,r5⟩:=aj hN 5 37
     have e5:v5=.int .i64 ap.1:=r5
     rw[e5] at g5
     obtain⟨v6,g6,r6⟩:=aj hN 6 38
     have e6:v6=.int .i64 ap.2:=r6
     rw[e6] at g6
     refine aW rfl rfl 98 [.tmp 35,.tmp 36,.tmp 37,.tmp 38] #[28,53,92,3] rfl [.pointer (some ⟨b,0,none⟩),.agg (au s.1 s.2),.int .i64 ap.1,.int .i64 ap.2] (by simp[Act.eval,g3,g4,g5,g6]) (enters_of Tryz.func98 (by kernel_rfl) rfl) (Calls.mono (KP.out W1.drew H3.out.drew.rn.tb H3.out.drew.rn.tz) ?_)
     rintro e w3 ⟨sq,rfl,hs,ha⟩
     exact⟨_,rfl,_,rfl,⟨sq,rfl,hs,ha⟩,fun h=>absurd rfl h⟩
    case s8=>
     intro a w1 hw hO hN
     obtain⟨v7,g7,r7⟩:=aj hN 7 39
     obtain⟨sq,rfl,hs,ha⟩:=r7
     exact ah rfl (.tuple #[sq,.int .i64 pf.2.2]) _ rfl (by go_simp) ⟨_,rfl,⟨sq,rfl,hs,ha⟩,fun _=>rfl⟩
    case s9=>
     intro a w1 hw hO hN
     obtain⟨v8,g8,r8⟩:=aj hN 8 31
     obtain⟨sq,rfl,hs,ha⟩:=r8
     exact ah rfl sq _ rfl (by go_simp) ⟨_,rfl,⟨hs,ha⟩,fun _=>rfl⟩
    case s10=>
     intro a w1 hw hO hN
     obtain⟨v8,g8,r8⟩:=aj hN 8 31
     obtain⟨sq,rfl,hs,ha⟩:=r8
     exact ah rfl (.int .i64 pf.2.2) _ rfl (by go_simp) ⟨_,rfl,rfl,fun _=>rfl⟩
    case s11=>
     intro a w1 hw hO hN
     obtain⟨v9,g9,r9⟩:=aj hN 9 40
     exact ah rfl v9 _ rfl (by go_simp) ⟨_,rfl,r9,fun _=>rfl⟩
    case s12=>
     intro a w1 hw hO hN
     obtain⟨v10,g10,bS⟩:=aj hN 10 41
     have e10:v10=.int .i64 pf.2.2:=bS
     rw[e10] at g10
     exact ah rfl (.int .i64 pf.2.2) _ rfl (by go_simp) ⟨_,rfl,rfl,fun _=>rfl⟩
   case fin=>
    intro vs w1 hV
    have e12:vs 12=.int .i64 pf.2.2:=hV 12 (by decide)
    have e10:vs 10=.int .i64 pf.2.2:=hV 10 (by decide)
    obtain⟨Wn,Wo⟩:iV (vs 11) pf.1 w1/\After W1.drew b m v pf.2.1 w1:=hV 11 (by decide)
    obtain⟨v4,Nj⟩:=H3.out.drew.table Wo
    have H4:=show Hid (EL w w1 base rb pm b m v sv kvs v4 sv kvs B ⟨pf.2.1,R.st,R.vs⟩ b3 b4 s/\iV (vs 11) pf.1 w1) from⟨Nj,Wn⟩
    clear Nj Wn Wo hV H3 KP
    simp only[bn,Act.put,List.setIfInBounds_toArray,List.set_cons_zero,List.set_cons_succ,e12]
    clear e12 e10
    generalize vs 11=sq at *
    by_cases hpe:pf.2.2=0
    ·have hpb:(pf.2.2 != 0)=false:=by rw[hpe];rfl
     obtain⟨iL,hE1,hrg⟩:=Ni.out hpe
     have dS:=show Hid (P=fE d ⟨pf.2.1,R.st,R.vs⟩ ⟨s,false,ap.1,ap.2,[]⟩ pf.1) from by rw[aR.out,if_neg (by rw[hpe];simp)];exact rfl
     have KF:=show Hid _ from Hw HD.out BM.out w1 H4.out.1.rn ⟨vw.out.gd.grow iL hE1,vw.out.vs,vw.out.st,vw.out.fu,vw.out.mx⟩ (x:=⟨s,false,ap.1,ap.2,[]⟩) HQ.out.2 rfl H4.out.2 hrg (by have:=P6.out;omega)
     rw[<- dS.out] at KF
     clear iL hE1 hrg aR dS Ni
     go_wp2_with (first|(refine dU _ _ rfl b3 rfl H4.out.1.s3 hl rfl ?_)|(refine EH rfl _ _ _ rfl rfl rfl rfl hl ?_))
     refine Calls.mono KF.out ?_
     rintro e w4 ⟨kv,rfl,Ng,v5,Hz,oZ,fZ,nN,nO⟩
     have H5:=show Hid (EL w w4 base rb pm b m v sv kvs v5 Hz oZ B P.1 b3 b4 s) from H4.out.1.call nN nO
     have su:=show Hid (w.heap.size<=w1.heap.size) from H4.out.1.af.kp.size
     have zh:=show Hid (w4.ownsRow w1.heap.size 3 1 kv P.2.2.kd.length (kW P.2.2.kd)/\(∀ k,kv.ownBlock=some k->¬ Kb oZ k)/\P.2.2.s.1.length=16) from⟨Ng,fZ,Ib.out⟩
     clear Ng fZ nN nO KF H4
     go_wp2_with (refine iA rfl rfl _ _ rfl b4 rfl zh.out.2.2 (nD zh.out.1) rfl rfl H5.out.c4 ?_)
     intro w5 jZ hk5
     obtain⟨nN,nO⟩:=H5.out.vW hk5 xS.out
     have hO6:=wL zh.out.1 su.out H5.out.c4 hk5
     clear H5
     go_wp2_with fail
     refine bodyPost_ret (gH rfl _ _ b4 rfl jZ (dO zh.out.2.2 _)) rfl ?_
     exact⟨_,rfl,hO6,v5,Hz,oZ,zh.out.2.1,nN,nO⟩
    ·have hpb:(pf.2.2 != 0)=true:=by simpa using hpe
     have hp3:P=(⟨pf.2.1,R.st,R.vs⟩,pf.2.2,fF):=by rw[aR.out,if_pos hpe]
     clear aR
     go_wp2_with (first|(refine oD rfl rfl ?_)|(refine iA rfl rfl _ _ rfl b4 rfl (s:=fF) rfl rfl rfl rfl H4.out.1.c4 ?_))
     intro w5 jZ hk5
     obtain⟨nN,nO⟩:=H4.out.1.vW hk5 xS.out
     subst hp3
     clear H4
     go_wp2_with fail
     refine bodyPost_ret (gH rfl _ _ b4 rfl jZ (dO (x:=fF) rfl _)) rfl ?_
     exact⟨_,rfl,rT,v4,sv,kvs,fun k e=>(by cases e),nN,nO⟩
end Go.Proofs.YtkpbpecikibohaaGreatDoor

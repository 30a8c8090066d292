import Derived.Test.YtkpbpecikibohaaGreatDoorKG6
set_option linter.unusedSimpArgs false
set_option maxRecDepth 100000
set_option maxHeartbeats 4000000
namespace Go.Proofs.YtkpbpecikibohaaGreatDoor
open Go.RowKit Go.Shelf Go.Maps
open Fm (Nd)
open Bt.Bs (Ok wd)
theorem yI {w:World} {base n i:Nat} {e:TypeId} {v:Value} {xs:List Value} (h:w.ownsRow base e 1 v n xs) (hi:i<n):∃ g cap,v=.slice (some ⟨g,0,none⟩) n cap/\w.cell? ⟨g,i,none⟩=xs[i]?:=by
 rcases h.2 with ⟨_,h0⟩ | ⟨g,cap,cur,rfl,_,hh,h1,h2,h3,h4⟩
 ·omega
 ·refine⟨g,cap,rfl,?_⟩
  rw[cell_of_row w g _ cur _ _ hh,<- h4,List.getElem?_take,if_pos (by omega)]
  simp
theorem gY {w:World} {base n:Nat} {e:TypeId} {v:Value} {xs:List Value} (h:w.ownsRow base e 1 v n xs):∃ p c,v=.slice p n c:=by
 rcases h.2 with ⟨rfl,rfl⟩ | ⟨g,cap,cur,rfl,_⟩
 ·exact⟨_,_,rfl⟩
 ·exact⟨_,_,rfl⟩
structure CL (w0 W:World) (base rb pm b m:Nat) (v0 sv0:Value) (dW:List Value) (v sv:Value) (kvs:List Value) (B:Nat) (R:Rs) (b3 b9 b4:Nat) (s:SQ) (x:Stp) (kv rv mv:Value) (cs:List (Int × Int)):Prop where
 fl:FL w0 W base rb pm b m v0 sv0 dW v sv kvs B R b9 b4 x kv (.slice none 0 0) []
 s3:bM W b3 s.1 s.2
 rr:W.ownsRow w0.heap.size 92 1 rv cs.length (i1 cs)
 mr:W.ownsRow w0.heap.size 3 1 mv cs.length (i2 cs)
 mq:∀ k,mv.ownBlock=some k->kv.ownBlock≠some k
section
variable {w0 W W' W2:World} {base rb pm b m:Nat} {v0 sv0 v sv v' bH:Value} {dW kvs bI:List Value} {B:Nat} {R R':Rs} {b3 b9 b4:Nat} {s:SQ} {x:Stp} {kv rv mv:Value} {cs:List (Int × Int)}
theorem CL.call (h:CL w0 W base rb pm b m v0 sv0 dW v sv kvs B R b3 b9 b4 s x kv rv mv cs) (hr:Rn W' base rb pm b m v' bH bI B R') (ha:gJ W W' rb pm b m v sv kvs v' bH bI):CL w0 W' base rb pm b m v0 sv0 dW v' bH bI B R' b3 b9 b4 s x kv rv mv cs:=by
 have n3:=h.fl.rn.other h.s3 (by decide) (by decide) (by decide) (Or.inl (by decide))
 refine⟨h.fl.call hr ha,ha.cl h.s3 n3,bD h.rr fun k e => ?_,bD h.mr fun k e => ?_,h.mq⟩
 ·obtain⟨_,h2,cur,hc⟩:=aP h.rr k e
  exact ha.kp.block k h2 (h.fl.rn.other hc (by decide) (by decide) (by decide) (Or.inl (by decide)))
 ·obtain⟨_,h2,cur,hc⟩:=aP h.mr k e
  exact ha.kp.block k h2 (h.fl.rn.other hc (by decide) (by decide) (by decide) (Or.inl (by decide)))
theorem CL.later (h:CL w0 W base rb pm b m v0 sv0 dW v sv kvs B R b3 b9 b4 s x kv rv mv cs) (hb:Below W.heap.size W W'):CL w0 W' base rb pm b m v0 sv0 dW v sv kvs B R b3 b9 b4 s x kv rv mv cs:=h.call (h.fl.rn.later hb) (gJ.of_below hb)
theorem CL.drew (h:CL w0 W base rb pm b m v0 sv0 dW v sv kvs B R b3 b9 b4 s x kv rv mv cs):CL w0 W.drew base rb pm b m v0 sv0 dW v sv kvs B R b3 b9 b4 s x kv rv mv cs:=h.later (Below.refl _ _).drew
theorem CL.table (h:CL w0 W base rb pm b m v0 sv0 dW v sv kvs B R b3 b9 b4 s x kv rv mv cs) {t':List Nd} (ha:After W b m v t' W'):∃ v',CL w0 W' base rb pm b m v0 sv0 dW v' sv kvs B ⟨t',R.st,R.vs⟩ b3 b9 b4 s x kv rv mv cs:=by
 obtain⟨v',h1,h2⟩:=h.fl.rn.table ha
 exact⟨v',h.call h1 h2⟩
theorem CL.app (h:CL w0 W base rb pm b m v0 sv0 dW v sv kvs B R b3 b9 b4 s x kv rv mv cs) (hg:W.grownBy W' kv.ownBlock) {x':Stp} {kv':Value} (ho:W'.ownsRow w0.heap.size 3 1 kv' x'.kd.length (kW x'.kd)) (hat:kv'.ownBlock=kv.ownBlock\/kv'.ownBlock=some W.heap.size) (hc:Cl W2 b9 (bF x' kv') 102) (hk:dn b9 W' W2) (hG:2<w0.heap.size):CL w0 W2 base rb pm b m v0 sv0 dW v sv kvs B R b3 b9 b4 s x' kv' rv mv cs:=by
 have hk1:Kp (fun k=>kv.ownBlock=some k\/k=b9) W W2:=by
  refine Kp.trans (S:=fun k=>kv.ownBlock=some k\/k=b9) (S':=fun k=>k=b9) ⟨hg.os,hg.tape,hg.output,hg.size,fun k hk hn=>hg.block k hk (fun e=>hn (Or.inl e.symm))⟩ hk (fun i hi=>Or.inl (Or.inr hi))
 have hi:∀ k,kv.ownBlock=some k->∃ cur,W.heap[k]?=some (.cells cur 3 (0,0)):=fun k e=>(aP h.fl.kd k e).2.2
 refine⟨h.fl.Wd hg ho hat hc hk hG,(hk1.block b3 h.s3.lt (fun e => ?_)).trans h.s3,bD h.rr fun k e => ?_,bD h.mr fun k e => ?_,fun k e e2 => ?_⟩
 ·rcases e with e | e
  ·obtain⟨cur,hc⟩:=hi _ e
   exact absurd (gF hc h.s3) (by decide)
  ·have:=h.fl.c4
   rw[<- e] at this
   exact absurd (gF h.s3 this) (by decide)
 ·obtain⟨_,h2,cur,hcc⟩:=aP h.rr k e
  refine hk1.block k h2 (fun e2 => ?_)
  rcases e2 with e2 | e2
  ·obtain⟨Dc,hc2⟩:=hi _ e2
   exact absurd (gF hcc hc2) (by decide)
  ·subst e2
   exact absurd (gF hcc h.fl.c4) (by decide)
 ·obtain⟨_,h2,cur,hcc⟩:=aP h.mr k e
  refine hk1.block k h2 (fun e2 => ?_)
  rcases e2 with e2 | e2
  ·exact h.mq k e e2
  ·subst e2
   exact absurd (gF hcc h.fl.c4) (by decide)
 ·rcases hat with h1 | h1
  ·exact h.mq k e (h1 ▸ e2)
  ·rw[h1] at e2
   cases e2
   have:=(aP h.mr _ e).2.1
   omega
end
theorem iV.afr {w w':World} {base rb pm b m:Nat} {v sv v' bH:Value} {kvs bI:List Value} {B:Nat} {R:Rs} {pv:Value} {l:List SQ} (h:iV pv l w) (hr:Rn w base rb pm b m v sv kvs B R) (ha:gJ w w' rb pm b m v sv kvs v' bH bI):iV pv l w':=h.kp fun k _ hc=>ha.kp.block k hc.lt (hr.other hc (by decide) (by decide) (by decide) (Or.inl (by decide)))
def PZ (w:World) (base rb pm b m:Nat) (v sv:Value) (kvs:List Value) (B:Nat) (P:Rs × Int × Stp) (b4:Nat) (iW:Value) (w1:World):Prop:=∃ W,dn b4 W w1/\W.ownsRow w.heap.size 3 1 iW P.2.2.kd.length (kW P.2.2.kd)/\Cl W b4 (bF fF (.slice none 0 0)) 102/\w.heap.size<=b4/\∃ v' bH bI,(∀ k,iW.ownBlock=some k->¬ Kb bI k)/\Rn W base rb pm b m v' bH bI B P.1/\gJ w W rb pm b m v sv kvs v' bH bI/\bH.ownBlock≠some b4
section
variable {w w1 w2:World} {base rb pm b m:Nat} {v sv:Value} {kvs:List Value} {B:Nat} {P:Rs × Int × Stp} {b4:Nat} {iW:Value}
theorem PZ.turn (h:PZ w base rb pm b m v sv kvs B P b4 iW w1) (hk:dn b4 w1 w2):PZ w base rb pm b m v sv kvs B P b4 iW w2:=by
 obtain⟨W,h1,r⟩:=h
 exact⟨W,h1.trans hk,r⟩
theorem PZ.end (h:PZ w base rb pm b m v sv kvs B P b4 iW w1) (hG:2<w.heap.size):w1.ownsRow w.heap.size 3 1 iW P.2.2.kd.length (kW P.2.2.kd)/\∃ v' bH bI,(∀ k,iW.ownBlock=some k->¬ Kb bI k)/\Rn w1 base rb pm b m v' bH bI B P.1/\gJ w w1 rb pm b m v sv kvs v' bH bI:=by
 obtain⟨W,hk,ho,hc,hg,v',bH,bI,hn,hR,hA,h4⟩:=h
 have n4:=hR.other hc (by decide) (by decide) (by decide) (Or.inr h4)
 exact⟨wL ho (Nat.le_refl _) hc hk,v',bH,bI,hn,hR.own n4 (hR.gy.BK hc (by decide)) (by omega) hk,⟨hA.lv,hA.ls,hA.lk,hA.kp.trans (S':=fun k=>k=b4) hk (fun i hi=>Or.inr (by omega))⟩⟩
end
theorem P7 {w:World} {b:Nat} {old:Array Value} (h:Cl w b old 102) (ho:old.size=21) {s:Stp} (hs:s.s.1.length=16) {kv:Value} (hkv:kv.oneCell'=true):(Instr.storeAt 102 (.pointer (some ⟨b,0,none⟩)) (.agg (bF s kv))).run Tryz.prog w=.ok () (w.setRow b (bF s kv)):=by
 simp only[Instr.storeAt,Instr.sureAddr,Sem.run_bind,Sem.run_pure,Result.andThen]
 exact run_storeVar_row w b 102 102 old (bF s kv) h (by rw[wK,dO hs]) (by rw[ho,dO hs]) (EG s hkv)
theorem Xx (cs:List (Int × Int)) {i:Nat} (hi:i<cs.length):(i1 cs)[i]?=some (.int .i64 cs[i].1):=by simp[i1,hi]
theorem QF (cs:List (Int × Int)) {i:Nat} (hi:i<cs.length):(i2 cs)[i]?=some (.int .i64 cs[i].2):=by simp[i2,hi]
theorem SX {t:List Nd} {r:List Nat} {g:Int}:(fT t r g).length<=100000:=by
 unfold fT
 split
 ·exact MW r g t
 ·simp
theorem Nk (d:lX) (s:SQ) (R:Rs) (c:Int × Int) (cs:List (Int × Int)) (ks:List Nat):lg d s R (c :: cs) ks =
 if (aO R.t s.1 s.2 c.1 c.2).2.2≠0 then (⟨(aO R.t s.1 s.2 c.1 c.2).2.1,R.st,R.vs⟩,(aO R.t s.1 s.2 c.1 c.2).2.2,fF)
 else if (d ⟨(aO R.t s.1 s.2 c.1 c.2).2.1,R.st,R.vs⟩ ((aO R.t s.1 s.2 c.1 c.2).1.headD (Bt.Bs.zero,0))).2.1≠0 then ((d ⟨(aO R.t s.1 s.2 c.1 c.2).2.1,R.st,R.vs⟩ ((aO R.t s.1 s.2 c.1 c.2).1.headD (Bt.Bs.zero,0))).1,(d ⟨(aO R.t s.1 s.2 c.1 c.2).2.1,R.st,R.vs⟩ ((aO R.t s.1 s.2 c.1 c.2).1.headD (Bt.Bs.zero,0))).2.1,fF)
 else if ((d ⟨(aO R.t s.1 s.2 c.1 c.2).2.1,R.st,R.vs⟩ ((aO R.t s.1 s.2 c.1 c.2).1.headD (Bt.Bs.zero,0))).1.st.getD (d ⟨(aO R.t s.1 s.2 c.1 c.2).2.1,R.st,R.vs⟩ ((aO R.t s.1 s.2 c.1 c.2).1.headD (Bt.Bs.zero,0))).2.2 fF).pv=true then fE d (d ⟨(aO R.t s.1 s.2 c.1 c.2).2.1,R.st,R.vs⟩ ((aO R.t s.1 s.2 c.1 c.2).1.headD (Bt.Bs.zero,0))).1 ⟨s,false,c.1,c.2,[]⟩ (aO R.t s.1 s.2 c.1 c.2).1
 else lg d s (d ⟨(aO R.t s.1 s.2 c.1 c.2).2.1,R.st,R.vs⟩ ((aO R.t s.1 s.2 c.1 c.2).1.headD (Bt.Bs.zero,0))).1 cs (ks ++ [(d ⟨(aO R.t s.1 s.2 c.1 c.2).2.1,R.st,R.vs⟩ ((aO R.t s.1 s.2 c.1 c.2).1.headD (Bt.Bs.zero,0))).2.2]):=rfl
theorem SY {base rb pm b m B n:Nat} {d:lX} (hD:yG base rb pm b m B n d) (hd:qD B d):PY base rb pm b m B n d:=by
 intro w v sv kvs R s hR hG hq hr iw
 have hl:=hr.1
 have xS:=show Hid (2<w.heap.size) from Bt.qL hR.tz
 have HD:=show Hid (yG base rb pm b m B n d) from hD
 have BM:=show Hid (qD B d) from hd
 have vw:=show Hid (Gs B n R) from hG
 have HQ:=show Hid (eH R.t.length s/\Ok s.1) from⟨hq,hr⟩
 have hz0:eP R.t s.1 s.2=0:=iy hr hq
 obtain⟨P,hP⟩:∃ P,P=lg d s R (fT R.t s.1 s.2) []:=⟨_,rfl⟩
 rw[<- hP]
 have HP:=show Hid (P=lg d s R (fT R.t s.1 s.2) []) from hP
 have Ib:=show Hid (P.2.2.s.1.length=16) from by rw[hP];exact Ay hl _ _ _
 have HCM:=show Hid (∀ c ∈ fT R.t s.1 s.2,11<=c.1/\∀ t':List Nd,Ext R.t t'->findF t' s.1 s.2 c.1 c.2=true) from fun c hc=>⟨EJ hG.gd.ok hr (mh.2 hq) hc,fun t' hE=>by
  have hf0:=Ar hG.gd.ok hr hc
  have hh:Fm.has R.t c.2=true:=by
   unfold findF at hf0
   simp only[Bool.and_eq_true] at hf0
   exact hf0.1.1
  have hh:=Fm.dJ.1 hh
  obtain⟨n,hn⟩:∃ n:Nat,c.2=n:=⟨c.2.toNat,by omega⟩
  rw[hn] at hf0 |-
  exact yE hG.gd.ok hE (by omega) hf0⟩
 have hcl:(fT R.t s.1 s.2).length<=100000:=SX
 have KC:=show Hid (∀ W:World,Tb W b m v R.t->Bt.Tz W->Calls Tryz.prog 145 #[.pointer (some ⟨b,0,none⟩),.agg (au s.1 s.2)] W fun e w'=>∃ v1 v2,e=.returned (.tuple #[v1,v2,.int .i64 0])/\w'.ownsRow W.heap.size 92 1 v1 (fT R.t s.1 s.2).length (i1 (fT R.t s.1 s.2))/\w'.ownsRow W.heap.size 3 1 v2 (fT R.t s.1 s.2).length (i2 (fT R.t s.1 s.2))/\Below W.heap.size W w') from fun W h1 h2=>by
  have h:=FR W h1 h2 hr s.2
  rw[hz0] at h
  exact h
 clear hP hz0 hG hD hd hq iw
 generalize fT R.t s.1 s.2=cs at *
 go_enter Tryz.func97,Tryz.ntmps97
 go_wp2_with (refine aC 53 _ rfl _ rfl rfl ?_)
 intro w1 b3 hn1
 go_wp2_with (refine aN 102 rfl _ uo rfl ?_)
 intro w2 b4 hn2
 have H2:=show Hid (EL w w2 base rb pm b m v sv kvs v sv kvs B R b3 b4 s) from Nf hR hn1 hn2
 clear hn1 hn2 hR hr
 go_wp2_with fail
 refine iD (by kernel_rfl) 5 [some 16,some 17,some 18,some 19,some 20,some 21,some 15,some 22,some 23,some 24,some 6,some 7,some 8] [[],[0],[1],[2],[],[3,4],[5],[6],[6],[6],[7],[8],[9]] [[],[0],[1,0],[2,1,0],[],[3,2,1,0,4],[5,3,2,1,0,4],[6,5,3,2,1,0,4],[6,5,3,2,1,0,4],[6,5,3,2,1,0,4],[7,6,5,3,2,1,0,4],[8,6,5,3,2,1,0,4],[9,6,5,3,2,1,0,4]] (by kernel_rfl) (by decide) (fun ii vv w1=>match ii with | 0=>vv=.pointer (some ⟨rb,0,none⟩) | 1=>vv=.pointer (some ⟨rb,0,none⟩) | 2=>vv=.pointer (some ⟨rb,0,none⟩) | 3=>vv=.pointer (some ⟨b,0,none⟩) | 4=>vv=.agg (au s.1 s.2) | 5=>∃ x1 x2,vv=.tuple #[x1,x2,.int .i64 0]/\w1.ownsRow w2.heap.size 92 1 x1 cs.length (i1 cs)/\w1.ownsRow w2.heap.size 3 1 x2 cs.length (i2 cs)/\Below w2.drew.heap.size w2.drew w1 | 6=>∃ x1 x2,vv=.tuple #[x1,x2,.int .i64 0]/\w1.ownsRow w2.heap.size 92 1 x1 cs.length (i1 cs)/\w1.ownsRow w2.heap.size 3 1 x2 cs.length (i2 cs)/\Below w2.drew.heap.size w2.drew w1 | 7=>w1.ownsRow w2.heap.size 92 1 vv cs.length (i1 cs) | 8=>w1.ownsRow w2.heap.size 3 1 vv cs.length (i2 cs) | 9=>vv=.int .i64 0 | 10=>w1.ownsRow w2.heap.size 92 1 vv cs.length (i1 cs) | 11=>w1.ownsRow w2.heap.size 3 1 vv cs.length (i2 cs) | 12=>vv=.int .i64 0 | _=>True) ?hfree (dL 13 ?steps) ?fin
 case hfree=>
  intro j v w1 w2 hj hn h
  match j,h,hj,hn with
  | 0,h,_,_=>exact h
  | 1,h,_,_=>exact h
  | 2,h,_,_=>exact h
  | 3,h,_,_=>exact h
  | 4,h,_,_=>exact h
  | 5,_,hj,_=>exact absurd rfl hj
  | 6,_,_,hn=>exact absurd (by decide) hn
  | 7,_,_,hn=>exact absurd (by decide) hn
  | 8,_,_,hn=>exact absurd (by decide) hn
  | 9,_,_,hn=>exact absurd (by decide) hn
  | 10,_,_,hn=>exact absurd (by decide) hn
  | 11,_,_,hn=>exact absurd (by decide) hn
  | 12,_,_,hn=>exact absurd (by decide) hn
  | _+13,_,_,_=>trivial
 case steps=>
  refine⟨⟨⟨⟨⟨⟨⟨⟨⟨⟨⟨⟨⟨trivial,?s0⟩,?s1⟩,?s2⟩,?s3⟩,?s4⟩,?s5⟩,?s6⟩,?s7⟩,?s8⟩,?s9⟩,?s10⟩,?s11⟩,?s12⟩
  case s0=>
   intro a w1 hw hO hN
   obtain rfl:w1=w2.drew:=hw (by decide)
   have o0:a.tmps[0]?=some (.pointer (some ⟨rb,0,none⟩)):=outs hO 0 rfl
   exact ah rfl (.pointer (some ⟨rb,0,none⟩)) _ rfl (by go_simp) ⟨_,rfl,rfl,fun _=>rfl⟩
  case s1=>
   intro a w1 hw hO hN
   obtain rfl:w1=w2.drew:=hw (by decide)
   obtain⟨v0,g0,r0⟩:=aj hN 0 16
   have e0:v0=.pointer (some ⟨rb,0,none⟩):=r0
   rw[e0] at g0
   exact ah rfl (.pointer (some ⟨rb,0,none⟩)) _ rfl (by go_simp) ⟨_,rfl,rfl,fun _=>rfl⟩
  case s2=>
   intro a w1 hw hO hN
   obtain rfl:w1=w2.drew:=hw (by decide)
   obtain⟨v1,g1,r1⟩:=aj hN 1 17
   have e1:v1=.pointer (some ⟨rb,0,none⟩):=r1
   rw[e1] at g1
   exact ah rfl (.pointer (some ⟨rb,0,none⟩)) _ rfl (by go_simp) ⟨_,rfl,rfl,fun _=>rfl⟩
  case s3=>
   intro a w1 hw hO hN
   obtain rfl:w1=w2.drew:=hw (by decide)
   obtain⟨v2,g2,r2⟩:=aj hN 2 18
   have e2:v2=.pointer (some ⟨rb,0,none⟩):=r2
   rw[e2] at g2
   have hc:w2.drew.cell? ⟨rb,0,none⟩=some (.pointer (some ⟨b,0,none⟩)):=H2.out.drew.rn.run.cell 0
   exact ah rfl (.pointer (some ⟨b,0,none⟩)) _ rfl (by go_simp) ⟨_,rfl,rfl,fun _=>rfl⟩
  case s4=>
   intro a w1 hw hO hN
   obtain rfl:w1=w2.drew:=hw (by decide)
   have o3:a.tmps[3]?=some (.pointer (some ⟨b3,0,none⟩)):=outs hO 3 rfl
   have hl:=pU w2.drew b3 H2.out.drew.s3 hl
   exact ah rfl (.agg (au s.1 s.2)) _ rfl (by simp[execOp,Act.eval,o3,hl,Result.andThen]) ⟨_,rfl,rfl,fun _=>rfl⟩
  case s5=>
   intro a w1 hw hO hN
   obtain rfl:w1=w2.drew:=hw (by decide)
   obtain⟨v3,g3,r3⟩:=aj hN 3 19
   have e3:v3=.pointer (some ⟨b,0,none⟩):=r3
   rw[e3] at g3
   obtain⟨v4,g4,r4⟩:=aj hN 4 20
   have e4:v4=.agg (au s.1 s.2):=r4
   rw[e4] at g4
   refine aW rfl rfl 145 [.tmp 19,.tmp 20] #[28,53] rfl [.pointer (some ⟨b,0,none⟩),.agg (au s.1 s.2)] (by simp[Act.eval,g3,g4]) (enters_of Tryz.func145 (by kernel_rfl) rfl) (Calls.mono (KC.out w2.drew H2.out.drew.rn.tb H2.out.drew.rn.tz) ?_)
   rintro e w3 ⟨x1,x2,rfl,h1,h2,hb⟩
   exact⟨_,rfl,_,rfl,⟨x1,x2,rfl,h1,h2,hb⟩,fun h=>absurd rfl h⟩
  case s6=>
   intro a w1 hw hO hN
   obtain⟨v5,g5,r5⟩:=aj hN 5 21
   obtain⟨x1,x2,rfl,h1,h2,hb⟩:=r5
   exact ah rfl (.tuple #[x1,x2,.int .i64 0]) _ rfl (by go_simp) ⟨_,rfl,⟨x1,x2,rfl,h1,h2,hb⟩,fun _=>rfl⟩
  case s7=>
   intro a w1 hw hO hN
   obtain⟨v6,g6,r6⟩:=aj hN 6 15
   obtain⟨x1,x2,rfl,h1,h2,hb⟩:=r6
   exact ah rfl x1 _ rfl (by go_simp) ⟨_,rfl,h1,fun _=>rfl⟩
  case s8=>
   intro a w1 hw hO hN
   obtain⟨v6,g6,r6⟩:=aj hN 6 15
   obtain⟨x1,x2,rfl,h1,h2,hb⟩:=r6
   exact ah rfl x2 _ rfl (by go_simp) ⟨_,rfl,h2,fun _=>rfl⟩
  case s9=>
   intro a w1 hw hO hN
   obtain⟨v6,g6,r6⟩:=aj hN 6 15
   obtain⟨x1,x2,rfl,h1,h2,hb⟩:=r6
   exact ah rfl (.int .i64 0) _ rfl (by go_simp) ⟨_,rfl,rfl,fun _=>rfl⟩
  case s10=>
   intro a w1 hw hO hN
   obtain⟨v7,g7,r7⟩:=aj hN 7 22
   exact ah rfl v7 _ rfl (by go_simp) ⟨_,rfl,r7,fun _=>rfl⟩
  case s11=>
   intro a w1 hw hO hN
   obtain⟨v8,g8,r8⟩:=aj hN 8 23
   exact ah rfl v8 _ rfl (by go_simp) ⟨_,rfl,r8,fun _=>rfl⟩
  case s12=>
   intro a w1 hw hO hN
   obtain⟨v9,g9,r9⟩:=aj hN 9 24
   have e9:v9=.int .i64 0:=r9
   rw[e9] at g9
   exact ah rfl (.int .i64 0) _ rfl (by go_simp) ⟨_,rfl,rfl,fun _=>rfl⟩
 case fin=>
  intro vs w1 hV
  have e12:vs 12=.int .i64 0:=hV 12 (by decide)
  have h10:w1.ownsRow w2.heap.size 92 1 (vs 10) cs.length (i1 cs):=hV 10 (by decide)
  have h11:w1.ownsRow w2.heap.size 3 1 (vs 11) cs.length (i2 cs):=hV 11 (by decide)
  obtain⟨_,_,_,_,_,hb5⟩:∃ x1 x2,vs 5=.tuple #[x1,x2,.int .i64 0]/\w1.ownsRow w2.heap.size 92 1 x1 cs.length (i1 cs)/\w1.ownsRow w2.heap.size 3 1 x2 cs.length (i2 cs)/\Below w2.drew.heap.size w2.drew w1:=hV 5 (by decide)
  have H3:=show Hid (EL w w1 base rb pm b m v sv kvs v sv kvs B R b3 b4 s) from H2.out.drew.later hb5
  have HS2:=show Hid (w.heap.size<=w2.heap.size) from H2.out.af.kp.size
  clear hb5 H2 hV KC
  simp only[bn,Act.put,List.setIfInBounds_toArray,List.set_cons_zero,List.set_cons_succ,e12]
  clear e12
  generalize vs 10=rv at *
  generalize vs 11=mv at *
  have hrr:=lT h10 HS2.out
  have hmr:=lT h11 HS2.out
  have Nl:=show Hid (w1.ownsRow w.heap.size 92 1 rv cs.length (i1 cs)/\w1.ownsRow w.heap.size 3 1 mv cs.length (i2 cs)) from⟨hrr,hmr⟩
  obtain⟨rp,rc,rfl⟩:=gY hrr
  clear h10 h11 hrr hmr HS2
  go_wp2_with (first|(refine dU _ _ rfl b3 rfl H3.out.s3 hl rfl ?_)|(refine EI rfl _ _ rfl rfl rfl hl ?_)|(refine aN 102 rfl _ uo rfl ?_))
  intro w3 b9 aL
  go_wp2_with (refine iA rfl rfl _ _ rfl b9 rfl (s:=⟨(s.1,s.2),false,14,0,[]⟩) hl rfl rfl (s0:=fF) rfl aL.blk ?_)
  intro w4 sG kD
  have hb4:Below w1.heap.size w1 w4:=bR aL.av kD aL.ge
  have HW1:=show Hid (w.heap.size<=w1.heap.size) from H3.out.af.kp.size
  have H4:=show Hid (CL w w4 base rb pm b m v sv kvs v sv kvs B R b3 b9 b4 s ⟨s,false,14,0,[]⟩ (.slice none 0 0) (.slice rp cs.length rc) mv cs) from(by
   have h5:=H3.out.later hb4;have e9:=aL.ge;have e4:=H3.out.c4.lt;have eW:=HW1.out
   refine⟨⟨h5.rn,h5.af,sG,h5.c4,by omega,h5.g4,by omega,fun e => ?_,h5.n4,rT,fun k e=>(by cases e),Or.inl ⟨rfl,rfl⟩⟩,h5.s3,bD Nl.out.1 fun k e=>hb4.block k (aP Nl.out.1 k e).2.1,bD Nl.out.2 fun k e=>hb4.block k (aP Nl.out.2 k e).2.1,fun k _ e=>(by cases e)⟩
   have:=(H3.out.rn.gy.blk e).2.1;omega)
  clear aL sG kD hb4 H3 Nl HW1
  go_wp2_with fail
  go_loopw [33] (fun iv wr=>∃ (i:Nat) (R':Rs) (ks:List Nat) (kv v' bH:Value) (bI:List Value),i<=cs.length/\iv=.int .i64 (i:Int)/\Hid (P=lg d s R' (cs.drop i) ks)/\Hid (CL w wr base rb pm b m v sv kvs v' bH bI B R' b3 b9 b4 s ⟨s,false,14,0,ks⟩ kv (.slice rp cs.length rc) mv cs)/\Hid (Gs B n R')/\Hid (Ext R.t R'.t)/\Hid (ks.length=i)) (fun iv _=>cs.length - (intOf iv).toNat)
  case atStart=>exact⟨0,R,[],_,_,_,_,by omega,rfl,HP,H4,vw,Ext.refl _,show([]:List Nat).length=0 from rfl⟩
  case round=>
   obtain⟨i,R',ks,kv,v',bH,bI,hi,rfl,aR,HF,HG2,HE,Wh⟩:=hrel
   clear HP H4
   by_cases hlt:i<cs.length
   ·have hil:(i:Int)<(cs.length:Int):=by omega
    obtain⟨rg,adn,MR,hrc⟩:=yI HF.out.rr hlt
    obtain⟨mg,tq,rfl,hmc⟩:=yI HF.out.mr hlt
    obtain⟨rfl,_,rfl⟩:=Value.slice.inj MR
    rw[Xx cs hlt] at hrc
    rw[QF cs hlt] at hmc
    have hp3:P=lg d s R' (cs[i] :: cs.drop (i+1)) ks:=by rw[aR.out,List.drop_eq_getElem_cons hlt]
    rw[Nk] at hp3
    obtain⟨rH,hfx⟩:=HCM.out _ (List.getElem_mem hlt)
    have hf:=hfx R'.t HE.out
    have hq1:eH R'.t.length s:=jr HE.out HQ.out.1
    have KP:=show Hid (∀ W:World,Tb W b m v' R'.t->Bt.Tz W->Calls Tryz.prog 98 #[.pointer (some ⟨b,0,none⟩),.agg (au s.1 s.2),.int .i64 cs[i].1,.int .i64 cs[i].2] W fun e w'=>∃ sv,e=.returned (.tuple #[sv,.int .i64 (aO R'.t s.1 s.2 cs[i].1 cs[i].2).2.2])/\iV sv (aO R'.t s.1 s.2 cs[i].1 cs[i].2).1 w'/\After W b m v' (aO R'.t s.1 s.2 cs[i].1 cs[i].2).2.1 w') from fun W h1 h2=>Ea W h1 h2 HQ.out.2 s.2 cs[i].1 cs[i].2
    have Ni:=show Hid ((aO R'.t s.1 s.2 cs[i].1 cs[i].2).2.2=0->Fm.Ok (aO R'.t s.1 s.2 cs[i].1 cs[i].2).2.1/\Ext R'.t (aO R'.t s.1 s.2 cs[i].1 cs[i].2).2.1/\(∀ p ∈ (aO R'.t s.1 s.2 cs[i].1 cs[i].2).1,eH (aO R'.t s.1 s.2 cs[i].1 cs[i].2).2.1.length p/\Ok p.1)/\∃ p ps,(aO R'.t s.1 s.2 cs[i].1 cs[i].2).1=p :: ps) from fun h0=>by
     obtain⟨a1,a2,a3,_⟩:=nE HG2.out.gd.ok HQ.out.2 hq1 hf h0
     obtain⟨_,_,_,hpc,_⟩:=uf HG2.out.gd.ok HQ.out.2 (iy HQ.out.2 hq1) hf h0
     exact⟨a1,a2,a3,Au rH hpc⟩
    have P6:=show Hid ((aO R'.t s.1 s.2 cs[i].1 cs[i].2).1.length<=2) from(wB (t:=R'.t) HQ.out.2 s.2 cs[i].1 cs[i].2).2
    have dS:=show Hid _ from hp3
    have hik:i<100000:=by omega
    clear hp3 aR rH hfx hf hq1 MR
    generalize aO R'.t s.1 s.2 cs[i].1 cs[i].2=pf at *
    generalize Wp:cs[i]=c at *
    have HCI:=show Hid (cs[i]=c) from Wp
    clear Wp
    go_wp2_with fail
    refine iD (by kernel_rfl) 10 [some 39,some 40,some 41,some 42,some 43,some 44,some 45,some 46,some 47,some 48,some 49,some 38,some 50,some 51,some 12,some 13] [[],[0],[1],[2],[],[],[],[],[6,7],[8],[3,4,5,9],[10],[11],[11],[12],[13]] [[],[0],[1,0],[2,1,0],[],[],[],[],[6,7],[8,6,7],[3,2,1,0,4,5,9,8,6,7],[10,3,2,1,0,4,5,9,8,6,7],[11,10,3,2,1,0,4,5,9,8,6,7],[11,10,3,2,1,0,4,5,9,8,6,7],[12,11,10,3,2,1,0,4,5,9,8,6,7],[13,11,10,3,2,1,0,4,5,9,8,6,7]] (by kernel_rfl) (by decide) (fun ii vv w1=>match ii with | 0=>vv=.pointer (some ⟨rb,0,none⟩) | 1=>vv=.pointer (some ⟨rb,0,none⟩) | 2=>vv=.pointer (some ⟨rb,0,none⟩) | 3=>vv=.pointer (some ⟨b,0,none⟩) | 4=>vv=.agg (au s.1 s.2) | 5=>vv=.int .i64 c.1 | 6=>vv=.slice (some ⟨mg,0,none⟩) cs.length tq | 7=>vv=.int .i64 (i:Int) | 8=>vv=.pointer (some ⟨mg,i,none⟩) | 9=>vv=.int .i64 c.2 | 10=>∃ sq,vv=.tuple #[sq,.int .i64 pf.2.2]/\iV sq pf.1 w1/\After wr.drew b m v' pf.2.1 w1 | 11=>∃ sq,vv=.tuple #[sq,.int .i64 pf.2.2]/\iV sq pf.1 w1/\After wr.drew b m v' pf.2.1 w1 | 12=>iV vv pf.1 w1/\After wr.drew b m v' pf.2.1 w1 | 13=>vv=.int .i64 pf.2.2 | 14=>iV vv pf.1 w1/\After wr.drew b m v' pf.2.1 w1 | 15=>vv=.int .i64 pf.2.2 | _=>True) ?hfree (dL 16 ?steps) ?fin
    case hfree=>
     intro j v w1 w2 hj hn h
     match j,h,hj,hn with
     | 0,h,_,_=>exact h
     | 1,h,_,_=>exact h
     | 2,h,_,_=>exact h
     | 3,h,_,_=>exact h
     | 4,h,_,_=>exact h
     | 5,h,_,_=>exact h
     | 6,h,_,_=>exact h
     | 7,h,_,_=>exact h
     | 8,h,_,_=>exact h
     | 9,h,_,_=>exact h
     | 10,_,hj,_=>exact absurd rfl hj
     | 11,_,_,hn=>exact absurd (by decide) hn
     | 12,_,_,hn=>exact absurd (by decide) hn
     | 13,_,_,hn=>exact absurd (by decide) hn
     | 14,_,_,hn=>exact absurd (by decide) hn
     | 15,_,_,hn=>exact absurd (by decide) hn
     | _+16,_,_,_=>trivial
    case steps=>
     refine⟨⟨⟨⟨⟨⟨⟨⟨⟨⟨⟨⟨⟨⟨⟨⟨trivial,?s0⟩,?s1⟩,?s2⟩,?s3⟩,?s4⟩,?s5⟩,?s6⟩,?s7⟩,?s8⟩,?s9⟩,?s10⟩,?s11⟩,?s12⟩,?s13⟩,?kg⟩,?s15⟩
     case s0=>
      intro a w1 hw hO hN
      obtain rfl:w1=wr.drew:=hw (by decide)
      have o0:a.tmps[0]?=some (.pointer (some ⟨rb,0,none⟩)):=outs hO 0 rfl
      exact ah rfl (.pointer (some ⟨rb,0,none⟩)) _ rfl (by go_simp) ⟨_,rfl,rfl,fun _=>rfl⟩
     case s1=>
      intro a w1 hw hO hN
      obtain rfl:w1=wr.drew:=hw (by decide)
      obtain⟨v0,g0,r0⟩:=aj hN 0 39
      have e0:v0=.pointer (some ⟨rb,0,none⟩):=r0
      rw[e0] at g0
      exact ah rfl (.pointer (some ⟨rb,0,none⟩)) _ rfl (by go_simp) ⟨_,rfl,rfl,fun _=>rfl⟩
     case s2=>
      intro a w1 hw hO hN
      obtain rfl:w1=wr.drew:=hw (by decide)
      obtain⟨v1,g1,r1⟩:=aj hN 1 40
      have e1:v1=.pointer (some ⟨rb,0,none⟩):=r1
      rw[e1] at g1
      exact ah rfl (.pointer (some ⟨rb,0,none⟩)) _ rfl (by go_simp) ⟨_,rfl,rfl,fun _=>rfl⟩
     case s3=>
      intro a w1 hw hO hN
      obtain rfl:w1=wr.drew:=hw (by decide)
      obtain⟨v2,g2,r2⟩:=aj hN 2 41
      have e2:v2=.pointer (some ⟨rb,0,none⟩):=r2
      rw[e2] at g2
      have hc:wr.drew.cell? ⟨rb,0,none⟩=some (.pointer (some ⟨b,0,none⟩)):=HF.out.drew.fl.rn.run.cell 0
      exact ah rfl (.pointer (some ⟨b,0,none⟩)) _ rfl (by go_simp) ⟨_,rfl,rfl,fun _=>rfl⟩
     case s4=>
      intro a w1 hw hO hN
      obtain rfl:w1=wr.drew:=hw (by decide)
      have o3:a.tmps[3]?=some (.pointer (some ⟨b3,0,none⟩)):=outs hO 3 rfl
      have hl:=pU wr.drew b3 HF.out.drew.s3 hl
      exact ah rfl (.agg (au s.1 s.2)) _ rfl (by simp[execOp,Act.eval,o3,hl,Result.andThen]) ⟨_,rfl,rfl,fun _=>rfl⟩
     case s5=>
      intro a w1 hw hO hN
      obtain rfl:w1=wr.drew:=hw (by decide)
      have Bq:a.tmps[11]?=some (.int .i64 c.1):=outs hO 11 rfl
      exact ah rfl (.int .i64 c.1) _ rfl (by go_simp) ⟨_,rfl,rfl,fun _=>rfl⟩
     case s6=>
      intro a w1 hw hO hN
      obtain rfl:w1=wr.drew:=hw (by decide)
      have o7:a.tmps[7]?=some (.slice (some ⟨mg,0,none⟩) cs.length tq):=outs hO 7 rfl
      exact ah rfl (.slice (some ⟨mg,0,none⟩) cs.length tq) _ rfl (by go_simp) ⟨_,rfl,rfl,fun _=>rfl⟩
     case s7=>
      intro a w1 hw hO hN
      obtain rfl:w1=wr.drew:=hw (by decide)
      have Bp:a.tmps[10]?=some (.int .i64 (i:Int)):=outs hO 10 rfl
      exact ah rfl (.int .i64 (i:Int)) _ rfl (by go_simp) ⟨_,rfl,rfl,fun _=>rfl⟩
     case s8=>
      intro a w1 hw hO hN
      obtain rfl:w1=wr.drew:=hw (by decide)
      obtain⟨v6,g6,r6⟩:=aj hN 6 45
      have e6:v6=.slice (some ⟨mg,0,none⟩) cs.length tq:=r6
      rw[e6] at g6
      obtain⟨v7,g7,r7⟩:=aj hN 7 46
      have e7:v7=.int .i64 (i:Int):=r7
      rw[e7] at g7
      exact ah rfl (.pointer (some ⟨mg,i,none⟩)) _ rfl (by go_simp) ⟨_,rfl,rfl,fun _=>rfl⟩
     case s9=>
      intro a w1 hw hO hN
      obtain rfl:w1=wr.drew:=hw (by decide)
      obtain⟨v8,g8,r8⟩:=aj hN 8 47
      have e8:v8=.pointer (some ⟨mg,i,none⟩):=r8
      rw[e8] at g8
      have hc:wr.drew.cell? ⟨mg,i,none⟩=some (.int .i64 c.2):=hmc
      exact ah rfl (.int .i64 c.2) _ rfl (by go_simp) ⟨_,rfl,rfl,fun _=>rfl⟩
     case s10=>
      intro a w1 hw hO hN
      obtain rfl:w1=wr.drew:=hw (by decide)
      obtain⟨v3,g3,r3⟩:=aj hN 3 42
      have e3:v3=.pointer (some ⟨b,0,none⟩):=r3
      rw[e3] at g3
      obtain⟨v4,g4,r4⟩:=aj hN 4 43
      have e4:v4=.agg (au s.1 s.2):=r4
      rw[e4] at g4
      obtain⟨v5,g5,r5⟩:=aj hN 5 44
      have e5:v5=.int .i64 c.1:=r5
      rw[e5] at g5
      obtain⟨v9,g9,r9⟩:=aj hN 9 48
      have e9:v9=.int .i64 c.2:=r9
      rw[e9] at g9
      refine aW rfl rfl 98 [.tmp 42,.tmp 43,.tmp 44,.tmp 48] #[28,53,92,3] rfl [.pointer (some ⟨b,0,none⟩),.agg (au s.1 s.2),.int .i64 c.1,.int .i64 c.2] (by simp[Act.eval,g3,g4,g5,g9]) (enters_of Tryz.func98 (by kernel_rfl) rfl) (Calls.mono (KP.out wr.drew HF.out.drew.fl.rn.tb HF.out.drew.fl.rn.tz) ?_)
      rintro e w3 ⟨sq,rfl,hs,ha⟩
      exact⟨_,rfl,_,rfl,⟨sq,rfl,hs,ha⟩,fun h=>absurd rfl h⟩
     case s11=>
      intro a w1 hw hO hN
      obtain⟨v10,g10,bS⟩:=aj hN 10 49
      obtain⟨sq,rfl,hs,ha⟩:=bS
      exact ah rfl (.tuple #[sq,.int .i64 pf.2.2]) _ rfl (by go_simp) ⟨_,rfl,⟨sq,rfl,hs,ha⟩,fun _=>rfl⟩
     case s12=>
      intro a w1 hw hO hN
      obtain⟨v11,g11,bW⟩:=aj hN 11 38
      obtain⟨sq,rfl,hs,ha⟩:=bW
      exact ah rfl sq _ rfl (by go_simp) ⟨_,rfl,⟨hs,ha⟩,fun _=>rfl⟩
     case s13=>
      intro a w1 hw hO hN
      obtain⟨v11,g11,bW⟩:=aj hN 11 38
      obtain⟨sq,rfl,hs,ha⟩:=bW
      exact ah rfl (.int .i64 pf.2.2) _ rfl (by go_simp) ⟨_,rfl,rfl,fun _=>rfl⟩
     case kg=>
      intro a w1 hw hO hN
      obtain⟨v12,g12,dB⟩:=aj hN 12 50
      exact ah rfl v12 _ rfl (by go_simp) ⟨_,rfl,dB,fun _=>rfl⟩
     case s15=>
      intro a w1 hw hO hN
      obtain⟨v13,g13,dD⟩:=aj hN 13 51
      have e13:v13=.int .i64 pf.2.2:=dD
      rw[e13] at g13
      exact ah rfl (.int .i64 pf.2.2) _ rfl (by go_simp) ⟨_,rfl,rfl,fun _=>rfl⟩
    case fin=>
     intro vs w1 hV
     have e15:vs 15=.int .i64 pf.2.2:=hV 15 (by decide)
     obtain⟨Wq,Ws⟩:iV (vs 14) pf.1 w1/\After wr.drew b m v' pf.2.1 w1:=hV 14 (by decide)
     obtain⟨v4,Nj⟩:=HF.out.drew.table Ws
     have H4:=show Hid (CL w w1 base rb pm b m v sv kvs v4 bH bI B ⟨pf.2.1,R'.st,R'.vs⟩ b3 b9 b4 s ⟨s,false,14,0,ks⟩ kv (.slice (some ⟨rg,0,none⟩) cs.length rc) (.slice (some ⟨mg,0,none⟩) cs.length tq) cs/\iV (vs 14) pf.1 w1) from⟨Nj,Wq⟩
     clear Nj Wq Ws hV HF KP hrc hmc
     simp only[bn,Act.put,List.setIfInBounds_toArray,List.set_cons_zero,List.set_cons_succ,e15]
     clear e15
     generalize vs 14=sq at *
     by_cases hpe:pf.2.2=0
     ·have hpb:(pf.2.2 != 0)=false:=by rw[hpe];rfl
      obtain⟨iL,hE1,hrg,p,ps,hpp⟩:=Ni.out hpe
      have uw:=hrg p (by rw[hpp];exact List.mem_cons_self ..)
      have Av:=uw.2.1
      rw[if_neg (by rw[hpe];simp),show pf.1.headD (Bt.Bs.zero,0)=p from by rw[hpp];rfl] at dS
      have BN:=show Hid (Gs B n ⟨pf.2.1,R'.st,R'.vs⟩) from⟨HG2.out.gd.grow iL hE1,HG2.out.vs,HG2.out.st,HG2.out.fu,HG2.out.mx⟩
      have YV:=show Hid (Ext R.t pf.2.1) from HE.out.trans hE1
      have QD:=show Hid (∀ p ∈ pf.1,eH pf.2.1.length p/\Ok p.1) from hrg
      obtain⟨sp,sc,rfl⟩:=H4.out.2.form
      have hpos:(0:Int)<(pf.1.length:Int):=by rw[hpp];simp
      obtain⟨q,rfl,P8⟩:=H4.out.2.at (fun s hs=>(hrg s hs).2.1) (i:=0) (by rw[hpp];simp)
      have hin:og w1 q 0 p.1 p.2:=by
       have e:pf.1[0]'(by rw[hpp];simp)=p:=by simp[hpp]
       rw[e,Nat.zero_mul] at P8
       exact P8
      have Nb:=show Hid _ from hin
      have KD:=show Hid _ from HD.out w1 v4 bH bI ⟨pf.2.1,R'.st,R'.vs⟩ p H4.out.1.fl.rn BN.out.gd BN.out.vs BN.out.st BN.out.fu uw.1 uw.2
      have HS:=show Hid (wJ B ⟨pf.2.1,R'.st,R'.vs⟩ p (d ⟨pf.2.1,R'.st,R'.vs⟩ p)/\Gs B n (d ⟨pf.2.1,R'.st,R'.vs⟩ p).1) from⟨BM.out _ p BN.out.gd BN.out.vs uw.1 uw.2,BN.out.dec BM.out uw.1 uw.2⟩
      clear iL hE1 hrg hin P8 uw HG2 HE Ni hpp
      generalize ug:d ⟨pf.2.1,R'.st,R'.vs⟩ p=qd at *
      clear ug
      go_wp2_with (refine zL _ rfl _ rfl q _ rfl Nb.out Av ?_)
      refine Calls.mono KD.out ?_
      rintro e w5 ⟨rfl,v5,Hz,oZ,nN,nO⟩
      have H5:=show Hid (CL w w5 base rb pm b m v sv kvs v5 Hz oZ B qd.1 b3 b9 b4 s ⟨s,false,14,0,ks⟩ kv (.slice (some ⟨rg,0,none⟩) cs.length rc) (.slice (some ⟨mg,0,none⟩) cs.length tq) cs/\iV (.slice (some ⟨q,0,none⟩) pf.1.length sc) pf.1 w5) from⟨H4.out.1.call nN nO,H4.out.2.afr H4.out.1.fl.rn nO⟩
      clear nN nO H4 KD Nb
      by_cases he:qd.2.1=0
      ·have EP:(qd.2.1 != 0)=false:=by rw[he];rfl
       obtain⟨y,hy,hys,Nc⟩:=HS.out.1.at he
       obtain⟨gs,YW,rfl,hpc⟩:=H5.out.1.fl.rn.gy.pv hy
       have ZR:=(List.getElem?_eq_some_iff.1 hy).1
       have c3:=H5.out.1.fl.rn.run.cell 3
       have Vk:(qd.2.2:Int)<(qd.1.st.length:Int):=by omega
       have hgd:=getD_some hy fF
       rw[if_neg (by rw[he];simp),hgd] at dS
       simp only[List.getElem?_toArray,List.getElem?_cons_succ,List.getElem?_cons_zero] at c3
       clear hgd
       cases hpv:y.pv with
       | true=>
        rw[hpv] at hpc dS
        rw[if_pos rfl] at dS
        clear hpv Nc
        have KF:=show Hid (∀ W:World,Rn W base rb pm b m v5 (.slice (some ⟨gs,0,none⟩) qd.1.st.length YW) oZ B qd.1->iV (.slice (some ⟨q,0,none⟩) pf.1.length sc) pf.1 W->Calls Tryz.prog 99 #[.pointer (some ⟨rb,0,none⟩),.agg (bF ⟨(s.1,s.2),false,c.1,c.2,[]⟩ (.slice none 0 0)),.slice (some ⟨q,0,none⟩) pf.1.length sc] W fun e w'=>JM W base rb pm b m v5 (.slice (some ⟨gs,0,none⟩) qd.1.st.length YW) oZ B P e w') from fun W h1 h2=>by
         have h:=Hw HD.out BM.out W h1 HS.out.2 (x:=⟨s,false,c.1,c.2,[]⟩) HQ.out.2 rfl h2 (fun p hp=>⟨jr HS.out.1.ext (QD.out p hp).1,(QD.out p hp).2⟩) (by have:=P6.out;omega)
         rw[<- dS.out] at h
         exact h
        clear dS HS
        obtain⟨mg2,ac7,hme,hmc⟩:=yI H5.out.1.mr hlt
        have Lc:mg2=mg:=by
         have ZT:=(Value.slice.inj hme).1
         injection ZT with h
         injection h with h
         exact h.symm
        rw[Lc] at hmc
        rw[QF cs hlt,HCI.out] at hmc
        have HMC:=show Hid (w5.cell? ⟨mg,i,none⟩=some (.int .i64 c.2)) from hmc
        clear hmc hme Lc
        go_wp2_with fail
        refine BZ (by kernel_rfl) 9 12 [some 76,some 77,some 78,some 79,some 80,some 81,some 82,some 83,some 84,some 85,some 86,some 87,none,some 5] [[],[],[],[],[],[3,4],[5],[1,2,6],[],[0,7,8],[9],[9],[10,9],[11]] [[],[],[],[],[],[3,4],[5,3,4],[1,2,6,5,3,4],[],[0,7,1,2,6,5,3,4,8],[9,0,7,1,2,6,5,3,4,8],[9,0,7,1,2,6,5,3,4,8],[10,9,0,7,1,2,6,5,3,4,8],[11,9,0,7,1,2,6,5,3,4,8]] (by kernel_rfl) (by decide) (by decide) (fun ii vv w1=>match ii with | 0=>vv=.pointer (some ⟨rb,0,none⟩) | 1=>vv=.agg (au s.1 s.2) | 2=>vv=.int .i64 c.1 | 3=>vv=.slice (some ⟨mg,0,none⟩) cs.length tq | 4=>vv=.int .i64 (i:Int) | 5=>vv=.pointer (some ⟨mg,i,none⟩) | 6=>vv=.int .i64 c.2 | 7=>vv=.agg (bF ⟨(s.1,s.2),false,c.1,c.2,[]⟩ (.slice none 0 0)) | 8=>vv=.slice (some ⟨q,0,none⟩) pf.1.length sc | 9=>∃ iW,vv=.tuple #[.agg (bF P.2.2 iW),.int .i64 P.2.1]/\PZ w base rb pm b m v sv kvs B P b4 iW w1 | 10=>∃ iW,vv=.agg (bF P.2.2 iW)/\PZ w base rb pm b m v sv kvs B P b4 iW w1 | 11=>vv=.int .i64 P.2.1 | 12=>∃ iW,Cl w1 b4 (bF P.2.2 iW) 102/\PZ w base rb pm b m v sv kvs B P b4 iW w1 | 13=>vv=.int .i64 P.2.1 | _=>True) (fun w1=>∃ old,Cl w1 b4 old 102/\old.size=21) (dn b4) ?hfree ?hst (⟨_,H5.out.1.drew.fl.c6,dO (x:=fF) rfl _⟩) (dL 14 ?steps) ?fin
        case hfree=>
         intro j v w1 w2 hj hn h
         match j,h,hj,hn with
         | 0,h,_,_=>exact h
         | 1,h,_,_=>exact h
         | 2,h,_,_=>exact h
         | 3,h,_,_=>exact h
         | 4,h,_,_=>exact h
         | 5,h,_,_=>exact h
         | 6,h,_,_=>exact h
         | 7,h,_,_=>exact h
         | 8,h,_,_=>exact h
         | 9,_,hj,_=>exact absurd rfl hj
         | 10,_,_,hn=>exact absurd (by decide) hn
         | 11,_,_,hn=>exact absurd (by decide) hn
         | 12,_,_,hn=>exact absurd (by decide) hn
         | 13,_,_,hn=>exact absurd (by decide) hn
         | _+14,_,_,_=>trivial
        case hst=>
         intro j v w1 w2 hj hn hU h
         match j,h,hj,hn with
         | 0,h,_,_=>exact h
         | 1,h,_,_=>exact h
         | 2,h,_,_=>exact h
         | 3,h,_,_=>exact h
         | 4,h,_,_=>exact h
         | 5,h,_,_=>exact h
         | 6,h,_,_=>exact h
         | 7,h,_,_=>exact h
         | 8,h,_,_=>exact h
         | 9,h,_,_=>exact(by obtain⟨iW,h1,h2⟩:=h;exact⟨iW,h1,h2.turn hU⟩)
         | 10,h,_,_=>exact(by obtain⟨iW,h1,h2⟩:=h;exact⟨iW,h1,h2.turn hU⟩)
         | 11,h,_,_=>exact h
         | 12,_,hj,_=>exact absurd rfl hj
         | 13,h,_,_=>exact h
         | _+14,_,_,_=>trivial
        case steps=>
         refine⟨⟨⟨⟨⟨⟨⟨⟨⟨⟨⟨⟨⟨⟨trivial,?s0⟩,?s1⟩,?s2⟩,?s3⟩,?s4⟩,?s5⟩,?s6⟩,?s7⟩,?s8⟩,?s9⟩,?s10⟩,?s11⟩,?s12⟩,?s13⟩
         case s0=>
          intro a w1 hw hT hO hN
          obtain rfl:w1=w5.drew:=hw (by decide)
          have o0:a.tmps[0]?=some (.pointer (some ⟨rb,0,none⟩)):=outs hO 0 rfl
          exact ah rfl (.pointer (some ⟨rb,0,none⟩)) _ rfl (by go_simp) ⟨_,rfl,rfl,hT,fun _ _=>rfl,fun h=>absurd h (by decide)⟩
         case s1=>
          intro a w1 hw hT hO hN
          obtain rfl:w1=w5.drew:=hw (by decide)
          have o3:a.tmps[3]?=some (.pointer (some ⟨b3,0,none⟩)):=outs hO 3 rfl
          have hl1:=pU w5.drew b3 H5.out.1.drew.s3 hl
          exact ah rfl (.agg (au s.1 s.2)) _ rfl (by simp[execOp,Act.eval,o3,hl1,Result.andThen]) ⟨_,rfl,rfl,hT,fun _ _=>rfl,fun h=>absurd h (by decide)⟩
         case s2=>
          intro a w1 hw hT hO hN
          obtain rfl:w1=w5.drew:=hw (by decide)
          have Bq:a.tmps[11]?=some (.int .i64 c.1):=outs hO 11 rfl
          exact ah rfl (.int .i64 c.1) _ rfl (by go_simp) ⟨_,rfl,rfl,hT,fun _ _=>rfl,fun h=>absurd h (by decide)⟩
         case s3=>
          intro a w1 hw hT hO hN
          obtain rfl:w1=w5.drew:=hw (by decide)
          have o7:a.tmps[7]?=some (.slice (some ⟨mg,0,none⟩) cs.length tq):=outs hO 7 rfl
          exact ah rfl (.slice (some ⟨mg,0,none⟩) cs.length tq) _ rfl (by go_simp) ⟨_,rfl,rfl,hT,fun _ _=>rfl,fun h=>absurd h (by decide)⟩
         case s4=>
          intro a w1 hw hT hO hN
          obtain rfl:w1=w5.drew:=hw (by decide)
          have Bp:a.tmps[10]?=some (.int .i64 (i:Int)):=outs hO 10 rfl
          exact ah rfl (.int .i64 (i:Int)) _ rfl (by go_simp) ⟨_,rfl,rfl,hT,fun _ _=>rfl,fun h=>absurd h (by decide)⟩
         case s5=>
          intro a w1 hw hT hO hN
          obtain rfl:w1=w5.drew:=hw (by decide)
          obtain⟨v3,g3,r3⟩:=aj hN 3 79
          have e3:v3=.slice (some ⟨mg,0,none⟩) cs.length tq:=r3
          rw[e3] at g3
          obtain⟨v4,g4,r4⟩:=aj hN 4 80
          have e4:v4=.int .i64 (i:Int):=r4
          rw[e4] at g4
          exact ah rfl (.pointer (some ⟨mg,i,none⟩)) _ rfl (by go_simp) ⟨_,rfl,rfl,hT,fun _ _=>rfl,fun h=>absurd h (by decide)⟩
         case s6=>
          intro a w1 hw hT hO hN
          obtain rfl:w1=w5.drew:=hw (by decide)
          obtain⟨v5,g5,r5⟩:=aj hN 5 81
          have e5:v5=.pointer (some ⟨mg,i,none⟩):=r5
          rw[e5] at g5
          have hc:w5.drew.cell? ⟨mg,i,none⟩=some (.int .i64 c.2):=HMC.out
          exact ah rfl (.int .i64 c.2) _ rfl (by go_simp) ⟨_,rfl,rfl,hT,fun _ _=>rfl,fun h=>absurd h (by decide)⟩
         case s7=>
          intro a w1 hw hT hO hN
          obtain rfl:w1=w5.drew:=hw (by decide)
          obtain⟨v1,g1,r1⟩:=aj hN 1 77
          have e1:v1=.agg (au s.1 s.2):=r1
          rw[e1] at g1
          obtain⟨v2,g2,r2⟩:=aj hN 2 78
          have e2:v2=.int .i64 c.1:=r2
          rw[e2] at g2
          obtain⟨v6,g6,r6⟩:=aj hN 6 82
          have e6:v6=.int .i64 c.2:=r6
          rw[e6] at g6
          have hb1:=QB w5.drew hl s.2 c.1 c.2
          exact ah rfl (.agg (bF ⟨(s.1,s.2),false,c.1,c.2,[]⟩ (.slice none 0 0))) _ rfl (by simp[execOp,Act.eval,g1,g2,g6,hb1,Result.andThen]) ⟨_,rfl,rfl,hT,fun _ _=>rfl,fun h=>absurd h (by decide)⟩
         case s8=>
          intro a w1 hw hT hO hN
          obtain rfl:w1=w5.drew:=hw (by decide)
          have M0:a.tmps[12]?=some (.slice (some ⟨q,0,none⟩) pf.1.length sc):=outs hO 12 rfl
          exact ah rfl (.slice (some ⟨q,0,none⟩) pf.1.length sc) _ rfl (by go_simp) ⟨_,rfl,rfl,hT,fun _ _=>rfl,fun h=>absurd h (by decide)⟩
         case s9=>
          intro a w1 hw hT hO hN
          obtain rfl:w1=w5.drew:=hw (by decide)
          obtain⟨v0,g0,r0⟩:=aj hN 0 76
          have e0:v0=.pointer (some ⟨rb,0,none⟩):=r0
          rw[e0] at g0
          obtain⟨v7,g7,r7⟩:=aj hN 7 83
          have e7:v7=.agg (bF ⟨(s.1,s.2),false,c.1,c.2,[]⟩ (.slice none 0 0)):=r7
          rw[e7] at g7
          obtain⟨v8,g8,r8⟩:=aj hN 8 84
          have e8:v8=.slice (some ⟨q,0,none⟩) pf.1.length sc:=r8
          rw[e8] at g8
          refine aW rfl rfl 99 [.tmp 76,.tmp 83,.tmp 84] #[95,102,187] rfl [.pointer (some ⟨rb,0,none⟩),.agg (bF ⟨(s.1,s.2),false,c.1,c.2,[]⟩ (.slice none 0 0)),.slice (some ⟨q,0,none⟩) pf.1.length sc] (by simp[Act.eval,g0,g7,g8]) (enters_of Tryz.func99 (by kernel_rfl) rfl) (Calls.mono (KF.out w5.drew H5.out.1.drew.fl.rn (H5.out.2.later (Below.refl _ _).drew)) ?_)
          rintro e w6 ⟨iW,rfl,QG,v6,zO,kJ,jH,BO,zP⟩
          have h6:=H5.out.1.drew.call BO zP
          have hsz:=H5.out.1.drew.fl.af.kp.size
          exact⟨_,rfl,_,rfl,⟨iW,rfl,w6,Kp.refl _ _,lT QG hsz,h6.fl.c6,h6.fl.g6,v6,zO,kJ,jH,BO,h6.fl.af,h6.fl.n6⟩,⟨_,h6.fl.c6,dO (x:=fF) rfl _⟩,fun h=>absurd rfl h,fun h=>absurd h (by decide)⟩
         case s10=>
          intro a w1 hw hT hO hN
          obtain⟨v9,g9,r9⟩:=aj hN 9 85
          obtain⟨iW,rfl,hp⟩:=r9
          exact ah rfl (.agg (bF P.2.2 iW)) _ rfl (by go_simp) ⟨_,rfl,⟨iW,rfl,hp⟩,hT,fun _ _=>rfl,fun h=>absurd h (by decide)⟩
         case s11=>
          intro a w1 hw hT hO hN
          obtain⟨v9,g9,r9⟩:=aj hN 9 85
          obtain⟨iW,rfl,hp⟩:=r9
          exact ah rfl (.int .i64 P.2.1) _ rfl (by go_simp) ⟨_,rfl,rfl,hT,fun _ _=>rfl,fun h=>absurd h (by decide)⟩
         case s12=>
          intro a w1 hw hT hO hN
          obtain⟨v10,g10,bS⟩:=aj hN 10 86
          obtain⟨v9,g9,r9⟩:=aj hN 9 85
          have o4:a.tmps[4]?=some (.pointer (some ⟨b4,0,none⟩)):=outs hO 4 rfl
          obtain⟨iW,rfl,hp⟩:=bS
          obtain⟨old,hold,hos⟩:=hT
          have hk2:iW.oneCell'=true:=by
           obtain⟨W,_,ho,_⟩:=hp
           exact nD ho
          exact ny rfl rfl 102 (.tmp 4) (.tmp 86) rfl (by simp[Act.eval,o4]) (by simp[Act.eval,g10]) (P7 hold hos Ib.out hk2) ⟨_,rfl,⟨iW,setRow_heap w1 b4 _ _ _ _ hold,hp.turn (fJ w1 b4 _)⟩,⟨_,setRow_heap w1 b4 _ _ _ _ hold,dO Ib.out _⟩,fun _ h=>absurd rfl h,fun _=>fJ w1 b4 _⟩
         case s13=>
          intro a w1 hw hT hO hN
          obtain⟨v11,g11,bW⟩:=aj hN 11 87
          have e11:v11=.int .i64 P.2.1:=bW
          rw[e11] at g11
          exact ah rfl (.int .i64 P.2.1) _ rfl (by go_simp) ⟨_,rfl,rfl,hT,fun _ _=>rfl,fun h=>absurd h (by decide)⟩
        case fin=>
         intro vs w1 hV
         have e13:vs 13=.int .i64 P.2.1:=hV 13 (by decide)
         obtain⟨iW,ZU,Wu⟩:∃ iW,Cl w1 b4 (bF P.2.2 iW) 102/\PZ w base rb pm b m v sv kvs B P b4 iW w1:=hV 12 (by decide)
         obtain⟨ER,v8,sv8,ZV,uZ,nI,uy⟩:=Wu.end xS.out
         simp only[bn,Act.put,List.setIfInBounds_toArray,List.set_cons_zero,List.set_cons_succ,e13]
         clear hV e13 H5 KF Wu
         go_wp2_with fail
         refine bodyPost_ret (gH rfl _ _ b4 rfl ZU (dO Ib.out _)) rfl ?_
         exact⟨_,rfl,ER,v8,sv8,ZV,uZ,nI,uy⟩
       | false=>
        rw[hpv] at hpc dS
        rw[if_neg (by simp)] at dS
        clear hpv Nc
        have c20:=(BL (x:=⟨s,false,14,0,ks⟩) hl H5.out.1.fl.c4).1
        go_wp2_with (refine jM rfl _ rfl _ rfl ?_)
        intro w6 q6 jH
        have H6:=show Hid _ from H5.out.1.later jH.av
        have hcq:w6.cell? ⟨q6,0,none⟩=some (.int .i64 (qd.2.2:Int)):=Cl.cell jH.blk 0
        obtain⟨i0,hi0,hz0,hz1,hz2⟩:=info_parts qW
        have ES:=Wh.out
        have hsz:=H6.out.fl.af.kp.size
        clear jH H5 c3 hpc c20
        go_wp2_with (at_builtin;refine wpList_append_own_at _ rfl (.tmp 89) (.tmp 91) 37 rfl w.heap.size 3 i0 (.int .i64 0) 1 8 Tryz.underlying37 hi0 hz0 hz1 hz2 rfl (by decide) kv ks.length (kW ks) rfl H6.out.fl.kd ⟨q6,0,none⟩ 1 1 [.int .i64 (qd.2.2:Int)] rfl rfl (lN hcq) (by intro u hu;simp at hu;subst hu;rfl) (by unfold maxLen;omega) (by omega) hsz ?_)
        intro zM w7 sO ET _ yH
        have hln:ks.length+1=(ks ++ [qd.2.2]).length:=by simp
        have zN:=show Hid (w7.ownsRow w.heap.size 3 1 zM (ks ++ [qd.2.2]).length (kW (ks ++ [qd.2.2]))/\w6.grownBy w7 kv.ownBlock/\(zM.ownBlock=kv.ownBlock\/zM.ownBlock=some w6.heap.size)) from⟨by rw[EO,<- hln,ES];exact sO,ET,yH⟩
        have C7:=show Hid _ from H6.out.fl.JL ET
        obtain⟨p7,n7,c7,rfl⟩:∃ p n c,zM=.slice p n c:=by
         rcases sO.2 with ⟨h1,_⟩ | ⟨g,cap,cur,h1,_⟩
         ·exact⟨_,_,_,h1⟩
         ·exact⟨_,_,_,h1⟩
        clear sO ET yH hcq hi0 hz0 hz1 hz2 hln
        go_wp2_with (refine uT rfl rfl _ _ rfl b9 rfl p7 n7 c7 rfl (s:=⟨s,false,14,0,ks⟩) hl C7.out (ks ++ [qd.2.2]) ?_)
        intro w8 hc8 gI
        have H8:=show Hid _ from H6.out.app zN.out.2.1 (x':=⟨s,false,14,0,ks ++ [qd.2.2]⟩) zN.out.1 zN.out.2.2 hc8 gI xS.out
        have Wi:=show Hid (Ext R.t qd.1.t) from YV.out.trans HS.out.1.ext
        have Wj:=show Hid (Gs B n qd.1) from HS.out.2
        clear hc8 gI H6 zN C7 YV BN HS
        go_wp2_with fail
        go_roundw
        case rel=>exact⟨i+1,_,_,_,_,_,_,by omega,by go_num,dS,H8,Wj,Wi,show(ks ++ [qd.2.2]).length=i+1 from by rw[List.length_append,ES];rfl⟩
        case measure=>first|(simp[intOf];done)|(simp[intOf];omega)
      ·have EP:(qd.2.1 != 0)=true:=by simpa using he
       rw[if_pos he] at dS
       go_wp2_with (first|(refine oD rfl rfl ?_)|(refine iA rfl rfl _ _ rfl b4 rfl (s:=fF) rfl rfl rfl rfl H5.out.1.fl.c6 ?_))
       intro w8 hc8 gI
       obtain⟨nI,uy,_⟩:=H5.out.1.fl.vX gI xS.out
       obtain rfl:=dS.out
       clear dS H5
       go_wp2_with fail
       refine bodyPost_ret (gH rfl _ _ b4 rfl hc8 (dO (x:=fF) rfl _)) rfl ?_
       exact⟨_,rfl,rT,v5,_,oZ,fun k e=>(by cases e),nI,uy⟩
     ·have hpb:(pf.2.2 != 0)=true:=by simpa using hpe
      have hp3:P=(⟨pf.2.1,R'.st,R'.vs⟩,pf.2.2,fF):=by rw[dS.out,if_pos hpe]
      clear dS
      go_wp2_with (first|(refine oD rfl rfl ?_)|(refine iA rfl rfl _ _ rfl b4 rfl (s:=fF) rfl rfl rfl rfl H4.out.1.fl.c6 ?_))
      intro w5 jZ hk5
      obtain⟨nN,nO,_⟩:=H4.out.1.fl.vX hk5 xS.out
      subst hp3
      clear H4
      go_wp2_with fail
      refine bodyPost_ret (gH rfl _ _ b4 rfl jZ (dO (x:=fF) rfl _)) rfl ?_
      exact⟨_,rfl,rT,v4,bH,bI,fun k e=>(by cases e),nN,nO⟩
   ·have hil:¬ (i:Int)<(cs.length:Int):=by omega
    have hp3:P=(R',0,⟨s,false,14,0,ks⟩):=by rw[aR.out,List.drop_of_length_le (by omega)];rfl
    clear aR
    go_wp2_with (first|(refine sZ _ rfl b9 rfl (s:=⟨s,false,14,0,ks⟩) hl HF.out.fl.c4 rfl ?_)|(refine iA rfl rfl _ _ rfl b4 rfl (s:=⟨s,false,14,0,ks⟩) hl (nD HF.out.fl.kd) rfl rfl HF.out.fl.c6 ?_))
    intro w8 hc8 gI
    obtain⟨nI,uy,ER⟩:=HF.out.fl.vX gI xS.out
    have Wm:=HF.out.fl.kn
    subst hp3
    clear HF
    go_wp2_with fail
    refine bodyPost_ret (gH rfl _ _ b4 rfl hc8 (dO (x:=⟨s,false,14,0,ks⟩) hl _)) rfl ?_
    exact⟨_,rfl,ER,v',_,bI,Wm,nI,uy⟩
end Go.Proofs.YtkpbpecikibohaaGreatDoor

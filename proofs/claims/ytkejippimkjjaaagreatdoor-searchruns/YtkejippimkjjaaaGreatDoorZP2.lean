import Derived.Test.YtkejippimkjjaaaGreatDoorZP3
import Derived.Test.YtkejippimkjjaaaGreatDoorZG6
import Derived.Test.YtkejippimkjjaaaGreatDoorZRpa
set_option linter.unusedSimpArgs false
set_option maxRecDepth 100000
set_option maxHeartbeats 4000000
namespace Go.Proofs.YtkejippimkjjaaaGreatDoor
open Go.RowKit Go.Shelf Go.Maps
open Fm (Nd)
open Bt.Bs (Ok wd)
structure RQ (w W:World) (c:Nat) (u:Value) (t:List Nd) (b10 b11:Nat) (aG:List Nat) (g:Int) (n:Nd):Prop where
 af:aO w c u t W
 n:Cl W b10 (bq n).toArray 54
 z:aX W b11 aG g
theorem RQ.later {w W W':World} {c:Nat} {u:Value} {t:List Nd} {b10 b11:Nat} {aG:List Nat} {g:Int} {n:Nd} (h:RQ w W c u t b10 b11 aG g n) (hb:Below W.heap.size W W'):RQ w W' c u t b10 b11 aG g n:=by
 obtain⟨u2,h1,h2,h3⟩:=h.af
 exact⟨⟨u2,h1.later hb,h2,h3.trans (Kp.of_below (S:=fun _=>False) hb) (fun _ hf=>hf.elim)⟩,h.n.later hb,h.z.later hb h.z.lt⟩
theorem RQ.drew {w W:World} {c:Nat} {u:Value} {t:List Nd} {b10 b11:Nat} {aG:List Nat} {g:Int} {n:Nd} (h:RQ w W c u t b10 b11 aG g n):RQ w W.drew c u t b10 b11 aG g n:=h.later ((Below.refl _ _).drew)
theorem Nk (w0:World) {c:Nat} {u:Value} {t:List Nd} (hT:Tr w0 c u t) {r:List Nat} (hr:Ok r) (g:Int) (i:Nat) (hi:i<t.length) (hf:findF t r g 13 (i:Int)=true) (xl:Nat) (hx:t[i].l=xl) (hxt:xl<t.length) (ny:Nd) (hny:t[xl]=ny) (y:Nat) (hy:t[i].r=y) (hyl:y<1024) :
 Calls Tryz.prog 37 #[.pointer (some ⟨c,0,none⟩),.agg (ak r g),.int .i64 13,.int .i64 (i:Int)] w0 fun e w'=>∃ sv,e=.returned (.tuple #[sv,.int .i64 (Fm.put t (ay 5 ny.r t[i].r)).2.1])/\eu sv (if (Fm.put t (ay 5 ny.r t[i].r)).2.1=0 then [(aA (Bt.aQ r (i:Int)) [(Fm.put t (ay 5 ny.r t[i].r)).1,(Fm.put t (ay 5 ny.r t[i].r)).1],(xl:Int)),(aA (Bt.aQ r (i:Int)) [(y:Int),(y:Int)],g)] else []) w'/\aO w0 c u (Fm.put t (ay 5 ny.r t[i].r)).2.2 w':=by
 have hl:=hr.1
 have gL:(i:Int)<(t.length:Int):=by omega
 have hlen:=hT.ok.len
 have tY:=show Hid (∀ k,Fr c u k->k<w0.heap.size) from hT.foot
 have hO:=hT.ok
 have KF:=show Hid (∀ W:World,Below w0.heap.size w0 W->Calls Tryz.prog 56 #[.pointer (some ⟨c,0,none⟩),.agg (ak r g),.int .i64 13,.int .i64 (i:Int)] W fun e w'=>e=.returned (.bool true)/\Below W.heap.size W w') from fun W hb=>by
  have:=fK W (hT.later hb) hr g 13 (i:Int)
  rw[hf] at this
  exact this
 have KD:=show Hid (∀ W:World,Calls Tryz.prog 57 #[.agg (Bt.aD r),.int .i64 (i:Int)] W fun e w'=>e=.returned (.agg (Bt.aD (Bt.aQ r (i:Int))))/\Below W.heap.size W w') from fun W=>Bt.gW W hr (i:Int)
 have hrs:Ok (Bt.aQ r (i:Int)):=cZ hr (i:Int)
 have HT:=show Hid (∀ W:World,Below w0.heap.size w0 W->Tr W c u t) from fun W hb=>hT.later hb
 have HC:=show Hid (∀ W:World,Below w0.heap.size w0 W->W.cell? ⟨c,0,none⟩=some u) from fun W hb=>(hT.later hb).c0
 obtain⟨p,cp,hu,hc1,hc2,hat⟩:=hT.row.gT.at
 obtain⟨bb,oo,hp,bF⟩:=hat (by omega)
 subst hp
 have HAT:=show Hid (∀ W:World,Below w0.heap.size w0 W->fH W bb (oo+i * 4) t[i]) from fun W hb=>bF W hb i hi
 have jZ:=show Hid (∀ W:World,Below w0.heap.size w0 W->∀ j (hj:j<t.length),fH W bb (oo+j * 4) t[j]) from fun W hb j hj=>bF W hb j hj
 subst hu
 clear hT hat bF hf
 generalize Bt.aQ r (i:Int)=aG at *
 have hl2:=hrs.1
 have hgx:Fm.i64 t[i].r:=(hO.gd _ (List.getElem_mem hi)).2.2.2
 have qR:=hO.gd _ (List.getElem_mem hxt)
 rw[hny] at qR
 have KI:=show Hid (∀ W:World,Tr W c (.slice (some ⟨bb,oo,none⟩) t.length cp) t->Calls Tryz.prog 61 #[.pointer (some ⟨c,0,none⟩),.int .i64 ny.r,.int .i64 t[i].r] W fun e w'=>e=.returned (.tuple #[.int .i64 (Fm.put t (ay 5 ny.r t[i].r)).1,.int .i64 (Fm.put t (ay 5 ny.r t[i].r)).2.1])/\aO W c (.slice (some ⟨bb,oo,none⟩) t.length cp) (Fm.put t (ay 5 ny.r t[i].r)).2.2 w') from fun W h=>xE W h ny.r t[i].r qR.2.2.2 hgx
 have vE:=show Hid ((Fm.put t (ay 5 ny.r t[i].r)).2.1=0->0<=(Fm.put t (ay 5 ny.r t[i].r)).1/\(Fm.put t (ay 5 ny.r t[i].r)).1<1024) from Dl hO
 generalize (Fm.put t (ay 5 ny.r t[i].r))=I at *
 clear hgx qR hO
 generalize t[i]=nd at *
 go_enter Tryz.func37,Tryz.ntmps37
 go_wp2_with (refine aI 27 _ rfl _ rfl rfl ?_)
 intro w1 b5 hn1
 have H1:=show Hid (dz w0 w1 b5 r g) from⟨hn1.blk,hn1.au,hn1.ge⟩
 clear hn1
 go_wp2_with (refine aJ _ _ rfl b5 rfl H1.out.s hl rfl ?_)
 refine Calls.mono (KF.out _ H1.out.au) ?_
 rintro e w2 ⟨rfl,hb2⟩
 have H2:=show Hid _ from H1.out.later hb2
 have c0:=HC.out w2 H2.out.au
 clear H1 hb2 KF
 go_wp2_with (first|(refine cK _ rfl _ rfl bb (oo+i * 4) rfl (HAT.out w2 H2.out.au) ?_)|(refine aF 54 rfl _ eP rfl ?_))
 intro w3 b10 aM
 go_wp2_with (refine aK 54 rfl rfl _ _ rfl b10 rfl (bq nd).toArray rfl _ _ aM.blk (by rw[eF];rfl) rfl (dR nd) ?_)
 intro w4 hc4 hk4
 have H4:=show Hid (dz w0 w4 b5 r g/\Cl w4 b10 (bq nd).toArray 54/\w0.heap.size<=b10) from by
  have e1:=H2.out.au.size;have e2:=aM.ge;have e3:=Cl.lt H2.out.s
  exact⟨⟨Cl.kp (T:=27) (Cl.new H2.out.s aM) hk4 (by omega),aP (aS H2.out.au aM) hk4 (by omega),H2.out.ge⟩,hc4,by omega⟩
 clear H2 aM hc4 hk4 c0
 go_wp2_with (first|(refine aJ _ _ rfl b5 rfl H4.out.1.s hl rfl ?_)|(refine aF 27 rfl _ fO rfl ?_))
 intro w5 b11 bB
 go_wp2_with (refine aK 27 rfl rfl _ _ rfl b11 rfl (ak r g) rfl _ _ bB.blk (by rw[jG,bI hl]) (by rw[bI hl];rfl) (fA r g) ?_)
 intro w6 hc6 dH
 have H6:=show Hid (dz w0 w6 b5 r g/\Cl w6 b10 (bq nd).toArray 54/\aX w6 b11 r g/\b11≠b5/\b11≠b10/\w0.heap.size<=b11) from by
  have e1:=H4.out.1.au.size;have e2:=bB.ge;have e3:=Cl.lt H4.out.1.s;have e4:=Cl.lt H4.out.2.1
  exact⟨⟨Cl.kp (T:=27) (Cl.new H4.out.1.s bB) dH (by omega),aP (aS H4.out.1.au bB) dH (by omega),H4.out.1.ge⟩,Cl.kp (Cl.new H4.out.2.1 bB) dH (by omega),hc6,by omega,by omega,by omega⟩
 have Ki:=show Hid (w0.heap.size<=b10) from H4.out.2.2
 clear H4 bB hc6 dH
 go_wp2_with (refine bN _ rfl _ rfl b5 0 rfl H6.out.1.s.dL hl ?_)
 refine Calls.mono (KD.out w6) ?_
 rintro e w7 ⟨rfl,bO⟩
 have hs7:aX w7 b11 r g:=H6.out.2.2.1.later bO H6.out.2.2.1.lt
 go_wp2_with (refine eG _ rfl rfl _ _ rfl b11 rfl rfl hs7 hl hl2 ?_)
 intro w8 iK bD
 have dJ:=show Hid (dz w0 w8 b5 r g/\Cl w8 b10 (bq nd).toArray 54) from
  ⟨⟨Cl.kp (T:=27) (H6.out.1.later bO).s bD (fun e=>H6.out.2.2.2.1 e.symm),aP (H6.out.1.later bO).au bD H6.out.2.2.2.2.2,H6.out.1.ge⟩,Cl.kp (H6.out.2.1.later bO) bD (fun e=>H6.out.2.2.2.2.1 e.symm)⟩
 have H8:=show Hid (RP w0 w8 c (.slice (some ⟨bb,oo,none⟩) t.length cp) t b5 b10 b11 r aG g nd) from⟨HT.out w8 dJ.out.1.au,dJ.out.1.s,dJ.out.2,iK,dJ.out.1.au⟩
 have yI:=show Hid (w0.heap.size<=b5/\w0.heap.size<=b10/\w0.heap.size<=b11) from⟨H6.out.1.ge,Ki.out,H6.out.2.2.2.2.2⟩
 clear dJ H6 bO hs7 iK bD KD HT
 have d2:w8.cell? ⟨b10,2,none⟩=some (.int .i64 nd.l):=H8.out.n.cell 2
 have d3:w8.cell? ⟨b10,3,none⟩=some (.int .i64 nd.r):=H8.out.n.cell 3
 obtain⟨N9,vF⟩:∃ n,n=w8.heap.size:=⟨_,rfl⟩
 have nM:=show Hid (w8.heap.size=N9) from vF.symm
 have nN:=show Hid (w0.heap.size<=N9/\b5<N9/\b10<N9/\b11<N9) from by
  have e1:=H8.out.au.size;have e2:=Cl.lt H8.out.s;have e3:=Cl.lt H8.out.n;have e4:=Cl.lt H8.out.z
  rw[vF]
  exact⟨e1,e2,e3,e4⟩
 clear vF HC HAT d2 d3
 go_wp2_with fail
 refine bC (by kernel_rfl) [some 182,some 183,some 184,some 185,some 186,some 187,some 188,some 189,some 20,none] [[],[0],[1],[2],[],[4],[3,5],[6],[],[8,7]] (by kernel_rfl) (fun i v w=>match i with | 0=>v=.pointer (some ⟨c,0,none⟩) | 1=>v=.pointer (some ⟨c,0,none⟩) | 2=>v=.pointer (some ⟨c,0,none⟩) | 3=>v=.slice (some ⟨bb,oo,none⟩) t.length cp | 4=>v=.pointer (some ⟨b10,2,none⟩) | 5=>v=.int .i64 (xl:Int) | 6=>v=.pointer (some ⟨bb,oo+xl * 4,none⟩) | 7=>v=.agg (bq ny).toArray | 8=>v=.pointer (some ⟨N9,0,none⟩) | 9=>True | _=>True) (fun done W=>RP w0 W c (.slice (some ⟨bb,oo,none⟩) t.length cp) t b5 b10 b11 r aG g nd/\(if done 9 then Cl W N9 (bq ny).toArray 54 else if done 8 then Cl W N9 (bq Fm.z).toArray 54 else W.heap.size=N9)) (fun _ _=>True) ?hle (⟨H8.out.drew,by simp only[Bool.false_eq_true,if_false];exact nM.out⟩) (bR 10 ?steps) ?fin
 case hle=>
  intro i v w w1 hl h
  match i,h with
  | 0,h=>exact h
  | 1,h=>exact h
  | 2,h=>exact h
  | 3,h=>exact h
  | 4,h=>exact h
  | 5,h=>exact h
  | 6,h=>exact h
  | 7,h=>exact h
  | 8,h=>exact h
  | 9,h=>exact h
  | _+10,h=>trivial
 case steps=>
  refine⟨⟨⟨⟨⟨⟨⟨⟨⟨⟨trivial,?s0⟩,?s1⟩,?s2⟩,?s3⟩,?s4⟩,?s5⟩,?s6⟩,?s7⟩,?s8⟩,?s9⟩
  case s0=>
   intro done a w hS h0 hd hn hO hN
   have o0:a.tmps[0]?=some (.pointer (some ⟨c,0,none⟩)):=outs hO 0 rfl
   refine ah rfl (.pointer (some ⟨c,0,none⟩)) w rfl (by go_simp) ⟨_,rfl,rfl,by simpa[h0] using hS,trivial⟩
  case s1=>
   intro done a w hS h0 hd hn hO hN
   obtain⟨v0,g0,r0⟩:=aj hN 0 182
   obtain rfl:v0=.pointer (some ⟨c,0,none⟩):=r0
   refine ah rfl (.pointer (some ⟨c,0,none⟩)) w rfl (by go_simp) ⟨_,rfl,rfl,by simpa[h0] using hS,trivial⟩
  case s2=>
   intro done a w hS h0 hd hn hO hN
   obtain⟨v1,g1,r1⟩:=aj hN 1 183
   obtain rfl:v1=.pointer (some ⟨c,0,none⟩):=r1
   refine ah rfl (.pointer (some ⟨c,0,none⟩)) w rfl (by go_simp) ⟨_,rfl,rfl,by simpa[h0] using hS,trivial⟩
  case s3=>
   intro done a w hS h0 hd hn hO hN
   obtain⟨v2,g2,r2⟩:=aj hN 2 184
   obtain rfl:v2=.pointer (some ⟨c,0,none⟩):=r2
   have hc:=hS.1.tr.c0
   refine ah rfl (.slice (some ⟨bb,oo,none⟩) t.length cp) w rfl (by go_simp) ⟨_,rfl,rfl,by simpa[h0] using hS,trivial⟩
  case s4=>
   intro done a w hS h0 hd hn hO hN
   have kT:a.tmps[10]?=some (.pointer (some ⟨b10,0,none⟩)):=outs hO 10 rfl
   refine ah rfl (.pointer (some ⟨b10,2,none⟩)) w rfl (by go_simp) ⟨_,rfl,rfl,by simpa[h0] using hS,trivial⟩
  case s5=>
   intro done a w hS h0 hd hn hO hN
   obtain⟨v4,g4,r4⟩:=aj hN 4 186
   obtain rfl:v4=.pointer (some ⟨b10,2,none⟩):=r4
   have hc:w.cell? ⟨b10,2,none⟩=some (.int .i64 (xl:Int)):=by rw[<- hx];exact hS.1.n.cell 2
   refine ah rfl (.int .i64 (xl:Int)) w rfl (by go_simp) ⟨_,rfl,rfl,by simpa[h0] using hS,trivial⟩
  case s6=>
   intro done a w hS h0 hd hn hO hN
   obtain⟨v3,g3,r3⟩:=aj hN 3 185
   obtain rfl:v3=.slice (some ⟨bb,oo,none⟩) t.length cp:=r3
   obtain⟨v5,g5,r5⟩:=aj hN 5 187
   obtain rfl:v5=.int .i64 (xl:Int):=r5
   refine ah rfl (.pointer (some ⟨bb,oo+xl * 4,none⟩)) w rfl (by go_simp) ⟨_,rfl,rfl,by simpa[h0] using hS,trivial⟩
  case s7=>
   intro done a w hS h0 hd hn hO hN
   obtain⟨v6,g6,r6⟩:=aj hN 6 188
   obtain rfl:v6=.pointer (some ⟨bb,oo+xl * 4,none⟩):=r6
   have hq:=vP w (jZ.out w hS.1.au xl hxt)
   rw[hny] at hq
   refine ah rfl (.agg (bq ny).toArray) w rfl (by simp[execOp,Act.eval,g6,hq,Result.andThen]) ⟨_,rfl,rfl,by simpa[h0] using hS,trivial⟩
  case s8=>
   intro done a w hS h0 hd hn hO hN
   have Ae:done 9=false:=hn 9 (by decide)
   have hsz:w.heap.size=N9:=by have:=hS.2;simpa[h0,Ae] using this
   have hnw:=aZ w (bq Fm.z).toArray 54
   refine ah rfl (.pointer (some ⟨N9,0,none⟩)) (w.alloc (.cells (bq Fm.z).toArray 54)) rfl (by rw[<- hsz];simp[execOp,Instr.alloc,eP,go_sem,Result.andThen];rfl) ⟨_,rfl,rfl,?_,trivial⟩
   rw[hsz] at hnw
   refine⟨hS.1.later hnw.au,?_⟩
   simp only[Ae,beq_self_eq_true,Bool.true_or,if_true,Bool.or_false,Nat.reduceBEq,Bool.false_eq_true,if_false]
   exact hnw.blk
  case s9=>
   intro done a w hS h0 hd hn hO hN
   obtain⟨v8,g8,r8⟩:=aj hN 8 20
   obtain rfl:v8=.pointer (some ⟨N9,0,none⟩):=r8
   obtain⟨v7,g7,r7⟩:=aj hN 7 189
   obtain rfl:v7=.agg (bq ny).toArray:=r7
   have Kj:done 8=true:=hd 8 (by decide)
   have hcl:Cl w N9 (bq Fm.z).toArray 54:=by have:=hS.2;simpa[h0,Kj] using this
   have hk:=fq w N9 (bq ny).toArray
   refine je rfl rfl 54 (.tmp 20) (.tmp 189) rfl (px:=.pointer (some ⟨N9,0,none⟩)) (vy:=.agg (bq ny).toArray) (by simp[Act.eval,g8]) (by simp[Act.eval,g7]) (EA hcl (by rw[eF];rfl) rfl (dR ny)) ⟨_,rfl,trivial,?_,trivial⟩
   refine⟨⟨hS.1.tr.keep fun k hk2=>hk.block k (hS.1.tr.foot k hk2) (fun e=>by have:=tY.out k hk2;have:=nN.out;omega),Cl.kp (T:=27) hS.1.s hk (fun e=>by have:=nN.out;omega),Cl.kp hS.1.n hk (fun e=>by have:=nN.out;omega),Cl.kp (T:=27) hS.1.z hk (fun e=>by have:=nN.out;omega),aP hS.1.au hk (by have:=nN.out;omega)⟩,?_⟩
   simp only[beq_self_eq_true,Bool.true_or,if_true]
   exact setRow_heap w N9 _ _ _ _ hcl
 case fin=>
  intro vs done w hdone hS hR
  have Af:done 9=true:=hdone 9 (by decide)
  have e12:vs 8=.pointer (some ⟨N9,0,none⟩):=hR 8 (by decide)
  have hS2:=hS
  simp only[Af,if_true] at hS2
  simp only[bg,Act.put,List.setIfInBounds_toArray,List.set_cons_zero,List.set_cons_succ]
  rw[e12]
  have H9:=show Hid ((RP w0 w c (.slice (some ⟨bb,oo,none⟩) t.length cp) t b5 b10 b11 r aG g nd)/\Cl w N9 (bq ny).toArray 54) from hS2
  clear hS hR hdone hS2 e12 Af
  have q3:w.cell? ⟨N9,3,none⟩=some (.int .i64 ny.r):=H9.out.2.cell 3
  have d3:w.cell? ⟨b10,3,none⟩=some (.int .i64 nd.r):=H9.out.1.n.cell 3
  rw[hy] at d3 KI
  go_wp2_with fail
  refine Calls.mono (KI.out w H9.out.1.tr) ?_
  rintro e eY ⟨rfl,u2,iZ,hL2,hK2⟩
  have zK:=show Hid (RQ w0 eY c (.slice (some ⟨bb,oo,none⟩) t.length cp) I.2.2 b10 b11 aG g nd) from
   ⟨⟨u2,iZ,fun k hk=>(hL2 k hk).imp id (fun h=>Nat.le_trans H9.out.1.au.size h),(Kp.of_below H9.out.1.au).trans hK2 (fun i hi=>Or.inl hi)⟩,(hK2.block b10 (Cl.lt H9.out.1.n) (fun e=>by have:=tY.out b10 e;have:=yI.out;omega)).trans H9.out.1.n,(hK2.block b11 (Cl.lt H9.out.1.z) (fun e=>by have:=tY.out b11 e;have:=yI.out;omega)).trans H9.out.1.z⟩
  clear iZ hL2 hK2 H9 KI q3 d3 jZ nM tY yI nN
  by_cases hz:I.2.1=0
  ·have hzb:(I.2.1 != 0)=false:=by simpa using hz
   have hib:=vE.out hz
   obtain⟨f,hfa⟩:∃ f:Nat,I.1=f:=⟨I.1.toNat,by omega⟩
   have hfl:f<1024:=by omega
   have Zb:=show Hid (I.1=(f:Int)) from hfa
   clear vE hib hfa
   go_wp2_with fail
   refine bC (by kernel_rfl) [some 202,some 203,some 204,some 205,some 206,some 207,some 208,some 209,some 210,some 211,some 212,some 213,some 214,some 215,some 8,some 9] [[],[],[],[0,1,2],[],[4],[3,5],[],[],[8],[],[10],[7,9,11],[6,12],[13],[]] (by kernel_rfl) (fun i v w=>match i with | 0=>v=.agg (ak (aG) (g)) | 1=>v=.int .i64 I.1 | 2=>v=.int .i64 I.1 | 3=>v=.agg (ak (aA (aG) [I.1,I.1]) (g)) | 4=>v=.pointer (some ⟨b10,2,none⟩) | 5=>v=.int .i64 (xl:Int) | 6=>v=.agg (ak (aA (aG) [I.1,I.1]) ((xl:Int))) | 7=>v=.agg (ak (aG) (g)) | 8=>v=.pointer (some ⟨b10,3,none⟩) | 9=>v=.int .i64 (y:Int) | 10=>v=.pointer (some ⟨b10,3,none⟩) | 11=>v=.int .i64 (y:Int) | 12=>v=.agg (ak (aA (aG) [(y:Int),(y:Int)]) (g)) | 13=>bW v [(aA (aG) [I.1,I.1],(xl:Int)),(aA (aG) [(y:Int),(y:Int)],g)] w | 14=>bW v [(aA (aG) [I.1,I.1],(xl:Int)),(aA (aG) [(y:Int),(y:Int)],g)] w | 15=>v=.int .i64 0 | _=>True) (fun _ W=>RQ w0 W c (.slice (some ⟨bb,oo,none⟩) t.length cp) I.2.2 b10 b11 aG g nd) (aC) ?hle (zK.out.drew) (bR 16 ?steps) ?fin
   case hle=>
    intro i v w w1 hl h
    match i,h with
    | 0,h=>exact h
    | 1,h=>exact h
    | 2,h=>exact h
    | 3,h=>exact h
    | 4,h=>exact h
    | 5,h=>exact h
    | 6,h=>exact h
    | 7,h=>exact h
    | 8,h=>exact h
    | 9,h=>exact h
    | 10,h=>exact h
    | 11,h=>exact h
    | 12,h=>exact h
    | 13,h=>exact bW.dB h hl
    | 14,h=>exact bW.dB h hl
    | 15,h=>exact h
    | _+16,h=>trivial
   case steps=>
    refine⟨⟨⟨⟨⟨⟨⟨⟨⟨⟨⟨⟨⟨⟨⟨⟨trivial,?s0⟩,?s1⟩,?s2⟩,?s3⟩,?s4⟩,?s5⟩,?s6⟩,?s7⟩,?s8⟩,?s9⟩,?s10⟩,?s11⟩,?s12⟩,?s13⟩,?gG⟩,?s15⟩
    case s0=>
     intro done a w hS h0 hd hn hO hN
     have pK:a.tmps[11]?=some (.pointer (some ⟨b11,0,none⟩)):=outs hO 11 rfl
     have hq:=eZ w b11 hS.z hrs.1
     refine ah rfl (.agg (ak (aG) (g))) w rfl (by simp[execOp,Act.eval,pK,hq,Result.andThen]) ⟨_,rfl,rfl,by simpa[h0] using hS,aC.refl _⟩
    case s1=>
     intro done a w hS h0 hd hn hO hN
     have Zc:a.tmps[21]?=some (.int .i64 I.1):=outs hO 21 rfl
     refine ah rfl (.int .i64 I.1) w rfl (by go_simp) ⟨_,rfl,rfl,by simpa[h0] using hS,aC.refl _⟩
    case s2=>
     intro done a w hS h0 hd hn hO hN
     have Zc:a.tmps[21]?=some (.int .i64 I.1):=outs hO 21 rfl
     refine ah rfl (.int .i64 I.1) w rfl (by go_simp) ⟨_,rfl,rfl,by simpa[h0] using hS,aC.refl _⟩
    case s3=>
     intro done a w hS h0 hd hn hO hN
     obtain⟨v0,g0,r0⟩:=aj hN 0 202
     obtain rfl:v0=.agg (ak (aG) (g)):=r0
     obtain⟨v1,g1,r1⟩:=aj hN 1 203
     obtain rfl:v1=.int .i64 I.1:=r1
     obtain⟨v2,g2,r2⟩:=aj hN 2 204
     obtain rfl:v2=.int .i64 I.1:=r2
     refine aR rfl rfl 58 [.tmp 202,.tmp 203,.tmp 204] #[27,3,3] rfl [.agg (ak (aG) (g)),.int .i64 I.1,.int .i64 I.1] (by simp[Act.eval,g0,g1,g2]) (enters_of Tryz.func58 (by kernel_rfl) rfl) (Calls.mono ((by have h7:=jU w hrs (g) f f hfl hfl;rw[<- Zb.out] at h7;exact h7)) ?_)
     rintro e w1 ⟨rfl,hb⟩
     refine⟨_,rfl,_,rfl,rfl,?_,aC.of_below hb⟩
     have h9:=hS.later hb
     simpa[h0] using h9
    case s4=>
     intro done a w hS h0 hd hn hO hN
     have kT:a.tmps[10]?=some (.pointer (some ⟨b10,0,none⟩)):=outs hO 10 rfl
     refine ah rfl (.pointer (some ⟨b10,2,none⟩)) w rfl (by go_simp) ⟨_,rfl,rfl,by simpa[h0] using hS,aC.refl _⟩
    case s5=>
     intro done a w hS h0 hd hn hO hN
     obtain⟨v4,g4,r4⟩:=aj hN 4 206
     obtain rfl:v4=.pointer (some ⟨b10,2,none⟩):=r4
     have hc:w.cell? ⟨b10,2,none⟩=some (.int .i64 (xl:Int)):=by rw[<- hx];exact hS.n.cell 2
     refine ah rfl (.int .i64 (xl:Int)) w rfl (by go_simp) ⟨_,rfl,rfl,by simpa[h0] using hS,aC.refl _⟩
    case s6=>
     intro done a w hS h0 hd hn hO hN
     obtain⟨v3,g3,r3⟩:=aj hN 3 205
     obtain rfl:v3=.agg (ak (aA (aG) [I.1,I.1]) (g)):=r3
     obtain⟨v5,g5,r5⟩:=aj hN 5 207
     obtain rfl:v5=.int .i64 (xl:Int):=r5
     refine aR rfl rfl 60 [.tmp 205,.tmp 207] #[27,3] rfl [.agg (ak (aA (aG) [I.1,I.1]) (g)),.int .i64 (xl:Int)] (by simp[Act.eval,g3,g5]) (enters_of Tryz.func60 (by kernel_rfl) rfl) (Calls.mono (qA w (dN (dN hrs I.1) I.1).1 (g) ((xl:Int))) ?_)
     rintro e w1 ⟨rfl,hb⟩
     refine⟨_,rfl,_,rfl,rfl,?_,aC.of_below hb⟩
     have h9:=hS.later hb
     simpa[h0] using h9
    case s7=>
     intro done a w hS h0 hd hn hO hN
     have pK:a.tmps[11]?=some (.pointer (some ⟨b11,0,none⟩)):=outs hO 11 rfl
     have hq:=eZ w b11 hS.z hrs.1
     refine ah rfl (.agg (ak (aG) (g))) w rfl (by simp[execOp,Act.eval,pK,hq,Result.andThen]) ⟨_,rfl,rfl,by simpa[h0] using hS,aC.refl _⟩
    case s8=>
     intro done a w hS h0 hd hn hO hN
     have kT:a.tmps[10]?=some (.pointer (some ⟨b10,0,none⟩)):=outs hO 10 rfl
     refine ah rfl (.pointer (some ⟨b10,3,none⟩)) w rfl (by go_simp) ⟨_,rfl,rfl,by simpa[h0] using hS,aC.refl _⟩
    case s9=>
     intro done a w hS h0 hd hn hO hN
     obtain⟨v8,g8,r8⟩:=aj hN 8 210
     obtain rfl:v8=.pointer (some ⟨b10,3,none⟩):=r8
     have hc:w.cell? ⟨b10,3,none⟩=some (.int .i64 (y:Int)):=by rw[<- hy];exact hS.n.cell 3
     refine ah rfl (.int .i64 (y:Int)) w rfl (by go_simp) ⟨_,rfl,rfl,by simpa[h0] using hS,aC.refl _⟩
    case s10=>
     intro done a w hS h0 hd hn hO hN
     have kT:a.tmps[10]?=some (.pointer (some ⟨b10,0,none⟩)):=outs hO 10 rfl
     refine ah rfl (.pointer (some ⟨b10,3,none⟩)) w rfl (by go_simp) ⟨_,rfl,rfl,by simpa[h0] using hS,aC.refl _⟩
    case s11=>
     intro done a w hS h0 hd hn hO hN
     obtain⟨v10,g10,bM⟩:=aj hN 10 212
     obtain rfl:v10=.pointer (some ⟨b10,3,none⟩):=bM
     have hc:w.cell? ⟨b10,3,none⟩=some (.int .i64 (y:Int)):=by rw[<- hy];exact hS.n.cell 3
     refine ah rfl (.int .i64 (y:Int)) w rfl (by go_simp) ⟨_,rfl,rfl,by simpa[h0] using hS,aC.refl _⟩
    case s12=>
     intro done a w hS h0 hd hn hO hN
     obtain⟨v7,g7,r7⟩:=aj hN 7 209
     obtain rfl:v7=.agg (ak (aG) (g)):=r7
     obtain⟨v9,g9,r9⟩:=aj hN 9 211
     obtain rfl:v9=.int .i64 (y:Int):=r9
     obtain⟨v11,g11,bP⟩:=aj hN 11 213
     obtain rfl:v11=.int .i64 (y:Int):=bP
     refine aR rfl rfl 58 [.tmp 209,.tmp 211,.tmp 213] #[27,3,3] rfl [.agg (ak (aG) (g)),.int .i64 (y:Int),.int .i64 (y:Int)] (by simp[Act.eval,g7,g9,g11]) (enters_of Tryz.func58 (by kernel_rfl) rfl) (Calls.mono (jU w hrs (g) y y hyl hyl) ?_)
     rintro e w1 ⟨rfl,hb⟩
     refine⟨_,rfl,_,rfl,rfl,?_,aC.of_below hb⟩
     have h9:=hS.later hb
     simpa[h0] using h9
    case s13=>
     intro done a w hS h0 hd hn hO hN
     obtain⟨v6,g6,r6⟩:=aj hN 6 208
     obtain rfl:v6=.agg (ak (aA (aG) [I.1,I.1]) ((xl:Int))):=r6
     obtain⟨v12,g12,bT⟩:=aj hN 12 214
     obtain rfl:v12=.agg (ak (aA (aG) [(y:Int),(y:Int)]) (g)):=bT
     have hq:=EC w (r:=aA (aG) [I.1,I.1]) (s:=aA (aG) [(y:Int),(y:Int)]) (dN (dN hrs I.1) I.1).1 (dN (dN hrs (y:Int)) (y:Int)).1 ((xl:Int)) (g)
     refine ah rfl (.slice (some ⟨w.heap.size,0,none⟩) 2 2) (w.alloc (.cells (bH [(aA (aG) [I.1,I.1],(xl:Int)),(aA (aG) [(y:Int),(y:Int)],g)]) 27)) rfl (by simp[execOp,Act.eval,g6,g12,hq,Result.andThen]) ⟨_,rfl,⟨w.heap.size,rfl,(aZ w _ _).blk⟩,?_,aC.of_below (av w _)⟩
     have h9:=hS.later (av w (.cells (bH [(aA (aG) [I.1,I.1],(xl:Int)),(aA (aG) [(y:Int),(y:Int)],g)]) 27))
     simpa[h0] using h9
    case gG=>
     intro done a w hS h0 hd hn hO hN
     obtain⟨v13,g13,bY⟩:=aj hN 13 215
     obtain⟨qz,rfl,hc⟩:=bY
     refine ah rfl _ w rfl (by go_simp) ⟨_,rfl,⟨qz,rfl,hc⟩,by simpa[h0] using hS,aC.refl _⟩
    case s15=>
     intro done a w hS h0 hd hn hO hN
     refine ah rfl (.int .i64 0) w rfl (by go_simp) ⟨_,rfl,rfl,by simpa[h0] using hS,aC.refl _⟩
   case fin=>
    intro vs done w hdone hS hR
    have ko:bW (vs 14) [(aA (aG) [I.1,I.1],(xl:Int)),(aA (aG) [(y:Int),(y:Int)],g)] w:=hR 14 (by decide)
    obtain⟨qz,hv,hc⟩:=ko
    have e0:vs 15=.int .i64 0:=hR 15 (by decide)
    simp only[bg,Act.put,List.setIfInBounds_toArray,List.set_cons_zero,List.set_cons_succ]
    rw[hv,e0]
    have HZ:=show Hid (bW (.slice (some ⟨qz,0,none⟩) ([(aA (aG) [I.1,I.1],(xl:Int)),(aA (aG) [(y:Int),(y:Int)],g)]).length ([(aA (aG) [I.1,I.1],(xl:Int)),(aA (aG) [(y:Int),(y:Int)],g)]).length) [(aA (aG) [I.1,I.1],(xl:Int)),(aA (aG) [(y:Int),(y:Int)],g)] w/\aO w0 c (.slice (some ⟨bb,oo,none⟩) t.length cp) I.2.2 w) from⟨⟨qz,rfl,hc⟩,hS.af⟩
    clear hS hR hdone hv hc e0
    go_wp2_with fail
    go_ret2
    exact⟨_,rfl,Or.inr HZ.out.1,HZ.out.2⟩
  ·have hzb:(I.2.1 != 0)=true:=by simpa using hz
   clear vE
   go_wp2_with fail
   go_ret2
   exact⟨_,rfl,Or.inl ⟨rfl,rfl⟩,zK.out.af⟩
section
variable {t:List Nd} {r:List Nat} {g:Int} {i:Nat}
theorem TI (hO:Fm.Ok t) (hz:d9 t r g=0) (hr:Ok r) (hi:i<t.length) (hf:findF t r g 6 (i:Int)=true) {xl:Nat} (hx:t[i].l=xl) (hxt:xl<t.length) :
 aH t r g 6 (i:Int)=((if (dh t t[xl].r t[i].r t[xl].l (-1)).1.2.2=0 then [(aA (Bt.aQ r (i:Int)) [(dh t t[xl].r t[i].r t[xl].l (-1)).1.2.1,(dh t t[xl].r t[i].r t[xl].l (-1)).1.2.1],g)] else []),(dh t t[xl].r t[i].r t[xl].l (-1)).2,(dh t t[xl].r t[i].r t[xl].l (-1)).1.2.2):=by
 obtain⟨h5,h3⟩:=jf hi 6 3 (by omega) hf
 rw[hx,aY hxt] at h3
 obtain⟨x,y,e1,e2,l1,l2⟩:=kids hO hi (Or.inr (Or.inr h5))
 obtain⟨x',y',e3,e4,l3,l4⟩:=kids hO hxt (Or.inl h3)
 rw[iD hz hf,qy hi h5 hx hxt]
 have hrs:Ok (Bt.aQ r (i:Int)):=cZ hr (i:Int)
 show(if ((false || ((Fm.put t (ay 5 t[xl].r t[i].r)).2.1 != 0)) || ((Fm.put (Fm.put t (ay 5 t[xl].r t[i].r)).2.2 (ay 5 t[xl].l (Fm.put t (ay 5 t[xl].r t[i].r)).1)).2.1 != 0))=true then ([],t,30) else ([(aA (Bt.aQ r (i:Int)) [(Fm.put (Fm.put t (ay 5 t[xl].r t[i].r)).2.2 (ay 5 t[xl].l (Fm.put t (ay 5 t[xl].r t[i].r)).1)).1],g)],(Fm.put (Fm.put t (ay 5 t[xl].r t[i].r)).2.2 (ay 5 t[xl].l (Fm.put t (ay 5 t[xl].r t[i].r)).1)).2.2,0))=_
 have h1:Fm.has t t[xl].r=true:=Fm.bJ.2 ⟨by omega,by omega⟩
 have h2:Fm.has t t[i].r=true:=Fm.bJ.2 ⟨by omega,by omega⟩
 have h4:Fm.has t t[xl].l=true:=Fm.bJ.2 ⟨by omega,by omega⟩
 have q1:=uP h1 h2
 have q2:(Fm.put t (ay 5 t[xl].r t[i].r)).2.1=0->_:=fun e=>uP (wX (n:=ay 5 t[xl].r t[i].r) h4) (RI e)
 have q3:=Fm.yM (t:=t) (n:=ay 5 t[xl].r t[i].r)
 unfold dh
 rw[if_neg (show ¬ t[xl].l<0 by omega),if_pos (show(-1:Int)<0 by omega)]
 generalize Fm.put t (ay 5 t[xl].r t[i].r)=P at *
 rcases q1 with e | e
 ·rw[if_neg (show ¬ P.2.1≠0 by simp[e])]
  have q4:=q2 e
  generalize Fm.put P.2.2 (ay 5 t[xl].l P.1)=Q at *
  rw[e]
  rcases q4 with e' | e'
  ·rw[e']
   simp[oC hrs]
  ·rw[e']
   simp
 ·rw[if_pos (show P.2.1≠0 by simp[e])]
  rw[e,(q3 (by rw[e];decide)).1]
  simp
theorem TJ (hO:Fm.Ok t) (hz:d9 t r g=0) (hi:i<t.length) (hf:findF t r g 7 (i:Int)=true) {xl:Nat} (hx:t[i].l=xl) (hxt:xl<t.length) :
 aH t r g 7 (i:Int)=((if (dh t t[xl].l t[i].r t[xl].r t[i].r).1.2.2=0 then [(aA (Bt.aQ r (i:Int)) [(dh t t[xl].l t[i].r t[xl].r t[i].r).1.1,(dh t t[xl].l t[i].r t[xl].r t[i].r).1.2.1],g)] else []),(dh t t[xl].l t[i].r t[xl].r t[i].r).2,(dh t t[xl].l t[i].r t[xl].r t[i].r).1.2.2):=by
 obtain⟨h5,h3⟩:=jf hi 7 4 (by omega) hf
 rw[hx,aY hxt] at h3
 obtain⟨x,y,e1,e2,l1,l2⟩:=kids hO hi (Or.inr (Or.inr h5))
 obtain⟨x',y',e3,e4,l3,l4⟩:=kids hO hxt (Or.inr (Or.inl h3))
 rw[iD hz hf,qy hi h5 hx hxt]
 show(if ((false || ((Fm.put t (ay 5 t[xl].l t[i].r)).2.1 != 0)) || ((Fm.put (Fm.put t (ay 5 t[xl].l t[i].r)).2.2 (ay 5 t[xl].r t[i].r)).2.1 != 0))=true then ([],t,30) else ([(aA (Bt.aQ r (i:Int)) [(Fm.put t (ay 5 t[xl].l t[i].r)).1,(Fm.put (Fm.put t (ay 5 t[xl].l t[i].r)).2.2 (ay 5 t[xl].r t[i].r)).1],g)],(Fm.put (Fm.put t (ay 5 t[xl].l t[i].r)).2.2 (ay 5 t[xl].r t[i].r)).2.2,0))=_
 have h1:Fm.has t t[xl].l=true:=Fm.bJ.2 ⟨by omega,by omega⟩
 have h2:Fm.has t t[i].r=true:=Fm.bJ.2 ⟨by omega,by omega⟩
 have h4:Fm.has t t[xl].r=true:=Fm.bJ.2 ⟨by omega,by omega⟩
 have q1:=uP h1 h2
 have q2:=uP (wX (n:=ay 5 t[xl].l t[i].r) h4) (wX (n:=ay 5 t[xl].l t[i].r) h2)
 have q3:=Fm.yM (t:=t) (n:=ay 5 t[xl].l t[i].r)
 unfold dh
 rw[if_neg (show ¬ t[xl].r<0 by omega),if_neg (show ¬ t[i].r<0 by omega)]
 generalize Fm.put t (ay 5 t[xl].l t[i].r)=P at *
 rcases q1 with e | e
 ·rw[if_neg (show ¬ P.2.1≠0 by simp[e])]
  generalize Fm.put P.2.2 (ay 5 t[xl].r t[i].r)=Q at *
  rw[e]
  rcases q2 with e' | e'
  ·rw[e']
   simp
  ·rw[e']
   simp
 ·rw[if_pos (show P.2.1≠0 by simp[e])]
  rw[e,(q3 (by rw[e];decide)).1]
  simp
theorem Qq (hO:Fm.Ok t) (hz:d9 t r g=0) (hr:Ok r) (hi:i<t.length) (hf:findF t r g 13 (i:Int)=true) {xl:Nat} (hx:t[i].l=xl) (hxt:xl<t.length) {y:Nat} (hy:t[i].r=y) (hyl:y<t.length) :
 aH t r g 13 (i:Int)=((if (Fm.put t (ay 5 t[xl].r t[i].r)).2.1=0 then [(aA (Bt.aQ r (i:Int)) [(Fm.put t (ay 5 t[xl].r t[i].r)).1,(Fm.put t (ay 5 t[xl].r t[i].r)).1],(xl:Int)),(aA (Bt.aQ r (i:Int)) [(y:Int),(y:Int)],g)] else []),(Fm.put t (ay 5 t[xl].r t[i].r)).2.2,(Fm.put t (ay 5 t[xl].r t[i].r)).2.1):=by
 obtain⟨h5,h3⟩:=jf hi 13 5 (by omega) hf
 rw[hx,aY hxt] at h3
 obtain⟨x',y',e3,e4,l3,l4⟩:=kids hO hxt (Or.inr (Or.inr h3))
 rw[iD hz hf,qy hi h5 hx hxt]
 have hrs:Ok (Bt.aQ r (i:Int)):=cZ hr (i:Int)
 show(if (false || ((Fm.put t (ay 5 t[xl].r t[i].r)).2.1 != 0))=true then ([],t,30) else ([(aA (Bt.aQ r (i:Int)) [(Fm.put t (ay 5 t[xl].r t[i].r)).1],(xl:Int)),(aA (Bt.aQ r (i:Int)) [t[i].r],g)],(Fm.put t (ay 5 t[xl].r t[i].r)).2.2,0))=_
 have h1:Fm.has t t[xl].r=true:=Fm.bJ.2 ⟨by omega,by omega⟩
 have h2:Fm.has t t[i].r=true:=Fm.bJ.2 ⟨by omega,by omega⟩
 have q1:=uP h1 h2
 have q3:=Fm.yM (t:=t) (n:=ay 5 t[xl].r t[i].r)
 generalize Fm.put t (ay 5 t[xl].r t[i].r)=P at *
 rw[hy]
 rcases q1 with e | e
 ·rw[e]
  simp[oC hrs]
 ·rw[e,(q3 (by rw[e];decide)).1]
  simp
end
theorem Nl (w:World) {c:Nat} {u:Value} {t:List Nd} (hT:Tr w c u t) {r:List Nat} (hr:Ok r) (g ru main:Int) (hf:findF t r g ru main=false) :
 Calls Tryz.prog 37 #[.pointer (some ⟨c,0,none⟩),.agg (ak r g),.int .i64 ru,.int .i64 main] w fun e w'=>e=.returned (.tuple #[.slice none 0 0,.int .i64 90])/\Below w.heap.size w w':=by
 have hl:=hr.1
 have KF:=show Hid (∀ W:World,Below w.heap.size w W->Calls Tryz.prog 56 #[.pointer (some ⟨c,0,none⟩),.agg (ak r g),.int .i64 ru,.int .i64 main] W fun e w'=>e=.returned (.bool false)/\Below W.heap.size W w') from fun W hb=>by
  have:=fK W (hT.later hb) hr g ru main
  rw[hf] at this
  exact this
 clear hT hf
 go_enter Tryz.func37,Tryz.ntmps37
 go_wp2_with (refine aI 27 _ rfl _ rfl rfl ?_)
 intro w1 b5 hn1
 have H1:=show Hid (dz w w1 b5 r g) from⟨hn1.blk,hn1.au,hn1.ge⟩
 clear hn1
 go_wp2_with (refine aJ _ _ rfl b5 rfl H1.out.s hl rfl ?_)
 refine Calls.mono (KF.out _ H1.out.au) ?_
 rintro e w2 ⟨rfl,hb2⟩
 have H2:=show Hid _ from H1.out.later hb2
 clear H1 hb2 KF
 go_wp2_with fail
 go_ret2
 exact⟨rfl,H2.out.au⟩
theorem aO.below {w w':World} {c:Nat} {u:Value} {t:List Nd} (hT:Tr w c u t) (hb:Below w.heap.size w w'):aO w c u t w':=⟨u,hT.later hb,fun _ hk=>Or.inl hk,Kp.of_below hb⟩
theorem Ag (w:World) {c:Nat} {u:Value} {t:List Nd} (hT:Tr w c u t) {r:List Nat} (hr:Ok r) (g ru main:Int) (hz:d9 t r g=0) :
 Calls Tryz.prog 37 #[.pointer (some ⟨c,0,none⟩),.agg (ak r g),.int .i64 ru,.int .i64 main] w fun e w'=>∃ sv,e=.returned (.tuple #[sv,.int .i64 (aH t r g ru main).2.2])/\eu sv (aH t r g ru main).1 w'/\aO w c u (aH t r g ru main).2.1 w':=by
 cases hf:findF t r g ru main with
 | false=>
  have e:aH t r g ru main=([],t,90):=by
   unfold aH
   rw[if_neg (by simp[hz]),if_pos hf]
  rw[e]
  exact(Nl w hT hr g ru main hf).mono fun e w' h=>⟨_,h.1,Or.inl ⟨rfl,rfl⟩,aO.below hT h.2⟩
 | true=>
  have hh:Fm.has t main=true:=by
   unfold findF at hf
   simp only[Bool.and_eq_true] at hf
   exact hf.1.1
  have BQ:=uN hf
  have hpos:1<=ru:=by
   unfold findF at hf
   simp only[Bool.and_eq_true,decide_eq_true_eq] at hf
   exact hf.1.2.1
  have h1:=Fm.bJ.1 hh
  obtain⟨i,rfl⟩:∃ i:Nat,main=i:=⟨main.toNat,by omega⟩
  have hi:i<t.length:=by omega
  have hO:=hT.ok
  have hlen:=hO.len
  have hrs:Ok (Bt.aQ r (i:Int)):=cZ hr (i:Int)
  have one:∀ l:List SQ,aH t r g ru (i:Int)=(l,t,0)->(Calls Tryz.prog 37 #[.pointer (some ⟨c,0,none⟩),.agg (ak r g),.int .i64 ru,.int .i64 (i:Int)] w fun e w'=>∃ sv,e=.returned (.tuple #[sv,.int .i64 0])/\bW sv l w'/\Below w.heap.size w w')->Calls Tryz.prog 37 #[.pointer (some ⟨c,0,none⟩),.agg (ak r g),.int .i64 ru,.int .i64 (i:Int)] w fun e w'=>∃ sv,e=.returned (.tuple #[sv,.int .i64 (aH t r g ru (i:Int)).2.2])/\eu sv (aH t r g ru (i:Int)).1 w'/\aO w c u (aH t r g ru (i:Int)).2.1 w':=fun l e h=>by
   rw[e]
   exact h.mono fun e w' ⟨sv,h1,h2,h3⟩=>⟨sv,h1,Or.inr h2,aO.below hT h3⟩
  have nZ:ru=1\/ru=2\/ru=3\/ru=4\/ru=5\/ru=6\/ru=7\/ru=8\/ru=9\/ru=10\/ru=11\/ru=12\/ru=13:=by omega
  rcases nZ with rfl | rfl | rfl | rfl | rfl | rfl | rfl | rfl | rfl | rfl | rfl | rfl | rfl
  ·have e:aH t r g 1 (i:Int)=([],t,0):=by rw[iD hz hf];rfl
   rw[e]
   exact(Ql w hT hr g i hi hf).mono fun e w' h=>⟨_,h.1,Or.inl ⟨rfl,rfl⟩,aO.below hT h.2⟩
  ·have e:aH t r g 2 (i:Int)=([],t,0):=by rw[iD hz hf];rfl
   rw[e]
   exact(Qm w hT hr g i hi hf).mono fun e w' h=>⟨_,h.1,Or.inl ⟨rfl,rfl⟩,aO.below hT h.2⟩
  ·obtain⟨x,y,hx,hy,l1,l2⟩:=kids hO hi (Or.inl (jm hi 3 3 (by omega) hf))
   refine one _ ?_ (Qn w hT hr g i hi hf x y hx hy (by omega) (by omega))
   rw[iD hz hf,bU hi,hx,hy];rfl
  ·obtain⟨x,y,hx,hy,l1,l2⟩:=kids hO hi (Or.inr (Or.inr (jf hi 4 1 (by omega) hf).1))
   refine one _ ?_ (Qo w hT hr g i hi hf x y hx hy (by omega) (by omega))
   rw[iD hz hf,bU hi,hy,oC hrs];rfl
  ·refine one _ ?_ (Qp w hT hr g i hi hf)
   rw[iD hz hf,bU hi];rfl
  ·obtain⟨x,y,hx,hy,l1,l2⟩:=kids hO hi (Or.inr (Or.inr (jf hi 6 3 (by omega) hf).1))
   rw[TI hO hz hr hi hf hx (by omega)]
   exact Qj w hT hr g i hi hf x hx (by omega) _ rfl
  ·obtain⟨x,y,hx,hy,l1,l2⟩:=kids hO hi (Or.inr (Or.inr (jf hi 7 4 (by omega) hf).1))
   rw[TJ hO hz hi hf hx (by omega)]
   exact Qk w hT hr g i hi hf x hx (by omega) _ rfl
  ·obtain⟨x,y,hx,hy,l1,l2⟩:=kids hO hi (Or.inr (Or.inr (jm hi 8 5 (by omega) hf)))
   refine one _ ?_ (Qh w hT hr g i hi hf x y hx hy (by omega) (by omega))
   rw[iD hz hf,bU hi,hx,hy,oC hr];rfl
  ·obtain⟨x,y,hx,hy,l1,l2⟩:=kids hO hi (Or.inl (jm hi 9 3 (by omega) hf))
   refine one _ ?_ (Qi w hT hr g i hi hf x y hx hy)
   rw[iD hz hf,bU hi,hx,hy];rfl
  ·obtain⟨x,y,hx,hy,l1,l2⟩:=kids hO hi (Or.inr (Or.inl (jm hi 10 4 (by omega) hf)))
   refine one _ ?_ (Nh w hT hr g i hi hf x y hx hy (by omega) (by omega))
   rw[iD hz hf,bU hi,hx,hy,oC hrs,oC hrs];rfl
  ·refine one _ ?_ (Ni w hT hr g i hi hf)
   rw[iD hz hf,bU hi];rfl
  ·refine one _ ?_ (Nj w hT hr g i hi hf)
   rw[iD hz hf,bU hi];rfl
  ·obtain⟨x,y,hx,hy,l1,l2⟩:=kids hO hi (Or.inr (Or.inr (jf hi 13 5 (by omega) hf).1))
   rw[Qq hO hz hr hi hf hx (by omega) hy (by omega)]
   exact Nk w hT hr g i hi hf x hx (by omega) _ rfl y hy (by omega)
end Go.Proofs.YtkejippimkjjaaaGreatDoor

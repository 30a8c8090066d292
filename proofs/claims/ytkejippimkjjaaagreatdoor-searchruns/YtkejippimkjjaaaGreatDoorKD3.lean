import Derived.Test.YtkejippimkjjaaaGreatDoorKD1
import Derived.Test.YtkejippimkjjaaaGreatDoorKG7
set_option linter.unusedSimpArgs false
set_option maxRecDepth 100000
set_option maxHeartbeats 8000000
namespace Go.Proofs.YtkejippimkjjaaaGreatDoor
open Go.RowKit Go.Shelf Go.Maps
open Fm (Nd)
open Bt.Bs (Ok wd)
theorem Ns {base rb c B n:Nat} {d:lK} (hD:zl base rb c B n d) (hd:og B d) (hlk:Ko d) (w:World) {u sv:Value} {kvs:List Value} {R:Rs} (hR:gN w base rb c u sv kvs B R) (hG:Gs B n R) {s:SQ} (hq:eD R.t.length s) (hr:Ok s.1) (fD:(aL R.t s.1 s.2).1=14) :
 Calls Tryz.prog 36 #[.pointer (some ⟨rb,0,none⟩),.agg (ak s.1 s.2)] w fun e w'=>DP w base rb c u sv kvs B (gJ (jk d s R (dV R.t s.1 s.2) [])) e w':=by
 have hl:=hr.1
 have HD:=show Hid (zl base rb c B n d) from hD
 have pQ:=show Hid (og B d) from hd
 have Zd:=show Hid (Ko d) from hlk
 have mH:=show Hid (Gs B n R) from hG
 have HQ:=show Hid (eD R.t.length s/\Ok s.1) from⟨hq,hr⟩
 have wu:=show Hid (base<=w.heap.size) from hR.bs.2
 obtain⟨P,hP⟩:∃ P,P=jk d s R (dV R.t s.1 s.2) []:=⟨_,rfl⟩
 have Ov:=show Hid (P.2.1=0->P.2.2.s=s/\P.1.st.length<=4096) from fun h0=>by
  have hp:=xB hd hG.gd.ok hr hq fD (dV R.t s.1 s.2) R [] hG.gd hG.vs (Ext.refl _) (fun c h=>h) (fun c h=>Or.inl h) (fun j hj=>by cases hj)
  rw[<- hP] at hp
  refine⟨(hp.uX h0).1,?_⟩
  have h2:=hp.way.ct.1
  have h3:=hp.way.vs.2
  have h4:=hG.st
  have h5:=hG.mx
  omega
 rw[<- hP]
 have HP:=show Hid (P=jk d s R (dV R.t s.1 s.2) []) from hP
 have HCM:=show Hid (∀ c ∈ dV R.t s.1 s.2,11<=c.1/\∀ t':List Nd,Ext R.t t'->findF t' s.1 s.2 c.1 c.2=true) from fun c hc=>⟨Cz hG.gd.ok hr (jN.2 hq) hc,fun t' hE=>by
  have hf0:=y8 hG.gd.ok hr hc
  have hh:Fm.has R.t c.2=true:=by
   unfold findF at hf0
   simp only[Bool.and_eq_true] at hf0
   exact hf0.1.1
  have hh:=Fm.bJ.1 hh
  obtain⟨n,hn⟩:∃ n:Nat,c.2=n:=⟨c.2.toNat,by omega⟩
  rw[hn] at hf0 |-
  exact xu hG.gd.ok hE (by omega) hf0⟩
 have hcl:(dV R.t s.1 s.2).length<=100000:=E9
 have KC:=show Hid (∀ W:World,Tr W c u R.t->Calls Tryz.prog 55 #[.pointer (some ⟨c,0,none⟩),.agg (ak s.1 s.2)] W fun e w'=>∃ v1 v2,e=.returned (.tuple #[v1,v2])/\w'.ownsRow W.heap.size 43 1 v1 (dV R.t s.1 s.2).length (i1 (dV R.t s.1 s.2))/\w'.ownsRow W.heap.size 3 1 v2 (dV R.t s.1 s.2).length (i2 (dV R.t s.1 s.2))/\Below W.heap.size W w') from fun W h1=>Dh W h1 hr s.2 (jN.2 hq)
 clear hP hG hD hd hlk hq fD
 generalize dV R.t s.1 s.2=cs at *
 go_enter Tryz.func36,Tryz.ntmps36
 go_wp2_with (refine aI 27 _ rfl _ rfl rfl ?_)
 intro w2 b3 hn2
 have H2:=show Hid (DB w w2 base rb c u sv kvs B R b3 s) from⟨hR.later hn2.au,hn2.blk,hn2.au⟩
 clear hn2 hR hr
 go_wp2_with fail
 refine dO (by kernel_rfl) 5 [some 15,some 16,some 17,some 18,some 19,some 20,some 14,some 21,some 22,some 6,some 7] [[],[0],[1],[2],[],[3,4],[5],[6],[6],[7],[8]] [[],[0],[1,0],[2,1,0],[],[3,2,1,0,4],[5,3,2,1,0,4],[6,5,3,2,1,0,4],[6,5,3,2,1,0,4],[7,6,5,3,2,1,0,4],[8,6,5,3,2,1,0,4]] (by kernel_rfl) (by decide) (fun ii vv w1=>match ii with | 0=>vv=.pointer (some ⟨rb,0,none⟩) | 1=>vv=.pointer (some ⟨rb,0,none⟩) | 2=>vv=.pointer (some ⟨rb,0,none⟩) | 3=>vv=.pointer (some ⟨c,0,none⟩) | 4=>vv=.agg (ak s.1 s.2) | 5=>∃ x1 x2,vv=.tuple #[x1,x2]/\w1.ownsRow w2.heap.size 43 1 x1 cs.length (i1 cs)/\w1.ownsRow w2.heap.size 3 1 x2 cs.length (i2 cs)/\Below w2.drew.heap.size w2.drew w1 | 6=>∃ x1 x2,vv=.tuple #[x1,x2]/\w1.ownsRow w2.heap.size 43 1 x1 cs.length (i1 cs)/\w1.ownsRow w2.heap.size 3 1 x2 cs.length (i2 cs)/\Below w2.drew.heap.size w2.drew w1 | 7=>w1.ownsRow w2.heap.size 43 1 vv cs.length (i1 cs) | 8=>w1.ownsRow w2.heap.size 3 1 vv cs.length (i2 cs) | 9=>w1.ownsRow w2.heap.size 43 1 vv cs.length (i1 cs) | 10=>w1.ownsRow w2.heap.size 3 1 vv cs.length (i2 cs) | _=>True) ?hfree (bR 11 ?steps) ?fin
 case hfree=>
  intro j v w1 w2 hj hn h
  match j,h,hj,hn with
  | 0,h,_,_=>exact h
  | 1,h,_,_=>exact h
  | 2,h,_,_=>exact h
  | 3,h,_,_=>exact h
  | 4,h,_,_=>exact h
  | 5,_,hj,_=>exact absurd rfl hj
  | 6,_,_,hn=>exact absurd (by decide) hn
  | 7,_,_,hn=>exact absurd (by decide) hn
  | 8,_,_,hn=>exact absurd (by decide) hn
  | 9,_,_,hn=>exact absurd (by decide) hn
  | 10,_,_,hn=>exact absurd (by decide) hn
  | _+11,_,_,_=>trivial
 case steps=>
  refine⟨⟨⟨⟨⟨⟨⟨⟨⟨⟨⟨trivial,?s0⟩,?s1⟩,?s2⟩,?s3⟩,?s4⟩,?s5⟩,?s6⟩,?s7⟩,?s8⟩,?s9⟩,?s10⟩
  case s0=>
   intro a w1 hw hO hN
   obtain rfl:w1=w2.drew:=hw (by decide)
   have o0:a.tmps[0]?=some (.pointer (some ⟨rb,0,none⟩)):=outs hO 0 rfl
   exact ah rfl (.pointer (some ⟨rb,0,none⟩)) _ rfl (by go_simp) ⟨_,rfl,rfl,fun _=>rfl⟩
  case s1=>
   intro a w1 hw hO hN
   obtain rfl:w1=w2.drew:=hw (by decide)
   obtain⟨v0,g0,r0⟩:=aj hN 0 15
   have e0:v0=.pointer (some ⟨rb,0,none⟩):=r0
   rw[e0] at g0
   exact ah rfl (.pointer (some ⟨rb,0,none⟩)) _ rfl (by go_simp) ⟨_,rfl,rfl,fun _=>rfl⟩
  case s2=>
   intro a w1 hw hO hN
   obtain rfl:w1=w2.drew:=hw (by decide)
   obtain⟨v1,g1,r1⟩:=aj hN 1 16
   have e1:v1=.pointer (some ⟨rb,0,none⟩):=r1
   rw[e1] at g1
   exact ah rfl (.pointer (some ⟨rb,0,none⟩)) _ rfl (by go_simp) ⟨_,rfl,rfl,fun _=>rfl⟩
  case s3=>
   intro a w1 hw hO hN
   obtain rfl:w1=w2.drew:=hw (by decide)
   obtain⟨v2,g2,r2⟩:=aj hN 2 17
   have e2:v2=.pointer (some ⟨rb,0,none⟩):=r2
   rw[e2] at g2
   have hc:w2.drew.cell? ⟨rb,0,none⟩=some (.pointer (some ⟨c,0,none⟩)):=H2.out.drew.rn.run.cell 0
   exact ah rfl (.pointer (some ⟨c,0,none⟩)) _ rfl (by go_simp) ⟨_,rfl,rfl,fun _=>rfl⟩
  case s4=>
   intro a w1 hw hO hN
   obtain rfl:w1=w2.drew:=hw (by decide)
   have o3:a.tmps[3]?=some (.pointer (some ⟨b3,0,none⟩)):=outs hO 3 rfl
   have hl:=eZ w2.drew b3 H2.out.drew.s3 hl
   exact ah rfl (.agg (ak s.1 s.2)) _ rfl (by simp[execOp,Act.eval,o3,hl,Result.andThen]) ⟨_,rfl,rfl,fun _=>rfl⟩
  case s5=>
   intro a w1 hw hO hN
   obtain rfl:w1=w2.drew:=hw (by decide)
   obtain⟨v3,g3,r3⟩:=aj hN 3 18
   have e3:v3=.pointer (some ⟨c,0,none⟩):=r3
   rw[e3] at g3
   obtain⟨v4,g4,r4⟩:=aj hN 4 19
   have e4:v4=.agg (ak s.1 s.2):=r4
   rw[e4] at g4
   refine aR rfl rfl 55 [.tmp 18,.tmp 19] #[29,27] rfl [.pointer (some ⟨c,0,none⟩),.agg (ak s.1 s.2)] (by simp[Act.eval,g3,g4]) (enters_of Tryz.func55 (by kernel_rfl) rfl) (Calls.mono (KC.out w2.drew H2.out.drew.rn.tr) ?_)
   rintro e w3 ⟨x1,x2,rfl,h1,h2,hb⟩
   exact⟨_,rfl,_,rfl,⟨x1,x2,rfl,h1,h2,hb⟩,fun h=>absurd rfl h⟩
  case s6=>
   intro a w1 hw hO hN
   obtain⟨v5,g5,r5⟩:=aj hN 5 20
   obtain⟨x1,x2,rfl,h1,h2,hb⟩:=r5
   exact ah rfl (.tuple #[x1,x2]) _ rfl (by go_simp) ⟨_,rfl,⟨x1,x2,rfl,h1,h2,hb⟩,fun _=>rfl⟩
  case s7=>
   intro a w1 hw hO hN
   obtain⟨v6,g6,r6⟩:=aj hN 6 14
   obtain⟨x1,x2,rfl,h1,h2,hb⟩:=r6
   exact ah rfl x1 _ rfl (by go_simp) ⟨_,rfl,h1,fun _=>rfl⟩
  case s8=>
   intro a w1 hw hO hN
   obtain⟨v6,g6,r6⟩:=aj hN 6 14
   obtain⟨x1,x2,rfl,h1,h2,hb⟩:=r6
   exact ah rfl x2 _ rfl (by go_simp) ⟨_,rfl,h2,fun _=>rfl⟩
  case s9=>
   intro a w1 hw hO hN
   obtain⟨v7,g7,r7⟩:=aj hN 7 21
   exact ah rfl v7 _ rfl (by go_simp) ⟨_,rfl,r7,fun _=>rfl⟩
  case s10=>
   intro a w1 hw hO hN
   obtain⟨v8,g8,r8⟩:=aj hN 8 22
   exact ah rfl v8 _ rfl (by go_simp) ⟨_,rfl,r8,fun _=>rfl⟩
 case fin=>
  intro vs w1 hV
  have h10:w1.ownsRow w2.heap.size 43 1 (vs 9) cs.length (i1 cs):=hV 9 (by decide)
  have h11:w1.ownsRow w2.heap.size 3 1 (vs 10) cs.length (i2 cs):=hV 10 (by decide)
  have hb5:Below w2.drew.heap.size w2.drew w1:=by
   have h5:∃ x1 x2,vs 5=.tuple #[x1,x2]/\w1.ownsRow w2.heap.size 43 1 x1 cs.length (i1 cs)/\w1.ownsRow w2.heap.size 3 1 x2 cs.length (i2 cs)/\Below w2.drew.heap.size w2.drew w1:=hV 5 (by decide)
   obtain⟨_,_,_,_,_,hb5⟩:=h5
   exact hb5
  have H3:=show Hid (DB w w1 base rb c u sv kvs B R b3 s) from H2.out.drew.later hb5
  have HS2:=show Hid (w.heap.size<=w2.heap.size) from H2.out.au.size
  clear hb5 H2 hV KC
  simp only[bg,Act.put,List.setIfInBounds_toArray,List.set_cons_zero,List.set_cons_succ,Nat.reduceAdd,Nat.zero_add]
  generalize vs 9=rv at *
  generalize vs 10=mv at *
  have hrr:=iF h10 HS2.out
  have hmr:=iF h11 HS2.out
  have H4:=show Hid (CD w w1 base rb c u sv kvs u sv kvs B R b3 s (.slice none 0 0) [] rv mv cs) from⟨H3.out.rn,mJ.of_below H3.out.au,H3.out.s3,mY,fun k e=>(by cases e),hrr,hmr,fun k _ e=>(by cases e)⟩
  obtain⟨rp,rc,rfl⟩:=tL hrr
  obtain⟨mp,mc,rfl⟩:=tL hmr
  clear h10 h11 hrr hmr HS2 H3
  go_wp2_with fail
  go_loopw [8,9] (fun TQ iv wr=>∃ (i:Nat) (R':Rs) (ks:List Nat) (u' aW:Value) (bn:List Value),i<=cs.length/\iv=.int .i64 (i:Int)/\Hid (P=jk d s R' (cs.drop i) ks)/\Hid (CD w wr base rb c u sv kvs u' aW bn B R' b3 s TQ ks (.slice rp cs.length rc) (.slice mp cs.length mc) cs)/\Hid (Gs B n R')/\Hid (Ext R.t R'.t)/\Hid (ks.length=i)) (fun _ iv _=>cs.length - (intOf iv).toNat)
  case atStart=>exact⟨0,R,[],_,_,_,by omega,rfl,HP,H4,mH,Ext.refl _,show([]:List Nat).length=0 from rfl⟩
  case round=>
   obtain⟨i,R',ks,u',aW,bn,hi,rfl,lN,HF,HG2,HE,CJ⟩:=hrel
   clear HP H4
   obtain⟨kv,Nt⟩:∃ kv,kv=u8:=⟨_,rfl⟩
   subst Nt
   by_cases hlt:i<cs.length
   ·have hil:(i:Int)<(cs.length:Int):=by omega
    obtain⟨rg,Wi,wG,hrc⟩:=kN HF.out.rr hlt
    obtain⟨mg,qO,hmv,hmc⟩:=kN HF.out.mr hlt
    obtain⟨rfl,_,rfl⟩:=Value.slice.inj wG
    obtain⟨rfl,_,rfl⟩:=Value.slice.inj hmv
    rw[Aw cs hlt] at hrc
    rw[yC cs hlt] at hmc
    have hp3:P=jk d s R' (cs[i] :: cs.drop (i+1)) ks:=by rw[lN.out,List.drop_eq_getElem_cons hlt]
    rw[zZ] at hp3
    obtain⟨nZ,hfx⟩:=HCM.out _ (List.getElem_mem hlt)
    have hf:=hfx R'.t HE.out
    have hq1:eD R'.t.length s:=jr HE.out HQ.out.1
    have hz1:=jE HQ.out.2 hq1
    have KP:=show Hid (∀ W:World,Tr W c u' R'.t->Calls Tryz.prog 37 #[.pointer (some ⟨c,0,none⟩),.agg (ak s.1 s.2),.int .i64 cs[i].1,.int .i64 cs[i].2] W fun e w'=>∃ sv,e=.returned (.tuple #[sv,.int .i64 (aH R'.t s.1 s.2 cs[i].1 cs[i].2).2.2])/\eu sv (aH R'.t s.1 s.2 cs[i].1 cs[i].2).1 w'/\aO W c u' (aH R'.t s.1 s.2 cs[i].1 cs[i].2).2.1 w') from fun W h1=>Ag W h1 HQ.out.2 s.2 cs[i].1 cs[i].2 hz1
    have tX:=show Hid ((aH R'.t s.1 s.2 cs[i].1 cs[i].2).2.2=0->Fm.Ok (aH R'.t s.1 s.2 cs[i].1 cs[i].2).2.1/\Ext R'.t (aH R'.t s.1 s.2 cs[i].1 cs[i].2).2.1/\(∀ p ∈ (aH R'.t s.1 s.2 cs[i].1 cs[i].2).1,eD (aH R'.t s.1 s.2 cs[i].1 cs[i].2).2.1.length p/\Ok p.1)/\∃ p ps,(aH R'.t s.1 s.2 cs[i].1 cs[i].2).1=p :: ps) from fun h0=>by
     obtain⟨a1,a2,a3,_⟩:=mX HG2.out.gd.ok HQ.out.2 hq1 hf h0
     obtain⟨_,_,_,hpc,_⟩:=rZ HG2.out.gd.ok HQ.out.2 (jE HQ.out.2 hq1) hf h0
     exact⟨a1,a2,a3,za nZ hpc⟩
    have tK:=show Hid ((aH R'.t s.1 s.2 cs[i].1 cs[i].2).1.length<=2) from(oW (t:=R'.t) HQ.out.2 s.2 cs[i].1 cs[i].2).2
    have fE:=show Hid _ from hp3
    have hik:i<100000:=by omega
    clear hp3 lN nZ hfx hf hq1 wG hmv hz1
    generalize aH R'.t s.1 s.2 cs[i].1 cs[i].2=pf at *
    generalize CQ:cs[i]=cc at *
    have Fa:=show Hid (cs[i]=cc) from CQ
    clear CQ
    go_wp2_with fail
    refine dO (by kernel_rfl) 13 [some 30,some 31,some 32,some 33,some 34,some 35,some 36,some 37,some 38,some 39,some 40,some 41,some 42,some 43,some 29,some 44,some 45,some 10,some 11] [[],[0],[1],[2],[],[],[],[5,6],[7],[],[],[9,10],[11],[3,4,8,12],[13],[14],[14],[15],[16]] [[],[0],[1,0],[2,1,0],[],[],[],[5,6],[7,5,6],[],[],[9,10],[11,9,10],[3,2,1,0,4,8,7,5,6,12,11,9,10],[13,3,2,1,0,4,8,7,5,6,12,11,9,10],[14,13,3,2,1,0,4,8,7,5,6,12,11,9,10],[14,13,3,2,1,0,4,8,7,5,6,12,11,9,10],[15,14,13,3,2,1,0,4,8,7,5,6,12,11,9,10],[16,14,13,3,2,1,0,4,8,7,5,6,12,11,9,10]] (by kernel_rfl) (by decide) (fun ii vv w1=>match ii with | 0=>vv=.pointer (some ⟨rb,0,none⟩) | 1=>vv=.pointer (some ⟨rb,0,none⟩) | 2=>vv=.pointer (some ⟨rb,0,none⟩) | 3=>vv=.pointer (some ⟨c,0,none⟩) | 4=>vv=.agg (ak s.1 s.2) | 5=>vv=.slice (some ⟨rg,0,none⟩) cs.length rc | 6=>vv=.int .i64 (i:Int) | 7=>vv=.pointer (some ⟨rg,i,none⟩) | 8=>vv=.int .i64 cc.1 | 9=>vv=.slice (some ⟨mg,0,none⟩) cs.length mc | 10=>vv=.int .i64 (i:Int) | 11=>vv=.pointer (some ⟨mg,i,none⟩) | 12=>vv=.int .i64 cc.2 | 13=>∃ sq,vv=.tuple #[sq,.int .i64 pf.2.2]/\eu sq pf.1 w1/\aO wr.drew c u' pf.2.1 w1 | 14=>∃ sq,vv=.tuple #[sq,.int .i64 pf.2.2]/\eu sq pf.1 w1/\aO wr.drew c u' pf.2.1 w1 | 15=>eu vv pf.1 w1/\aO wr.drew c u' pf.2.1 w1 | 16=>vv=.int .i64 pf.2.2 | 17=>eu vv pf.1 w1/\aO wr.drew c u' pf.2.1 w1 | 18=>vv=.int .i64 pf.2.2 | _=>True) ?hfree (bR 19 ?steps) ?fin
    case hfree=>
     intro j v w1 w2 hj hn h
     match j,h,hj,hn with
     | 0,h,_,_=>exact h
     | 1,h,_,_=>exact h
     | 2,h,_,_=>exact h
     | 3,h,_,_=>exact h
     | 4,h,_,_=>exact h
     | 5,h,_,_=>exact h
     | 6,h,_,_=>exact h
     | 7,h,_,_=>exact h
     | 8,h,_,_=>exact h
     | 9,h,_,_=>exact h
     | 10,h,_,_=>exact h
     | 11,h,_,_=>exact h
     | 12,h,_,_=>exact h
     | 13,_,hj,_=>exact absurd rfl hj
     | 14,_,_,hn=>exact absurd (by decide) hn
     | 15,_,_,hn=>exact absurd (by decide) hn
     | 16,_,_,hn=>exact absurd (by decide) hn
     | 17,_,_,hn=>exact absurd (by decide) hn
     | 18,_,_,hn=>exact absurd (by decide) hn
     | _+19,_,_,_=>trivial
    case steps=>
     refine⟨⟨⟨⟨⟨⟨⟨⟨⟨⟨⟨⟨⟨⟨⟨⟨⟨⟨⟨trivial,?s0⟩,?s1⟩,?s2⟩,?s3⟩,?s4⟩,?s5⟩,?s6⟩,?s7⟩,?s8⟩,?s9⟩,?s10⟩,?s11⟩,?s12⟩,?s13⟩,?gG⟩,?s15⟩,?s16⟩,?rW⟩,?uJ⟩
     case s0=>
      intro a w1 hw hO hN
      obtain rfl:w1=wr.drew:=hw (by decide)
      have o0:a.tmps[0]?=some (.pointer (some ⟨rb,0,none⟩)):=outs hO 0 rfl
      exact ah rfl (.pointer (some ⟨rb,0,none⟩)) _ rfl (by go_simp) ⟨_,rfl,rfl,fun _=>rfl⟩
     case s1=>
      intro a w1 hw hO hN
      obtain rfl:w1=wr.drew:=hw (by decide)
      obtain⟨v0,g0,r0⟩:=aj hN 0 30
      have e0:v0=.pointer (some ⟨rb,0,none⟩):=r0
      rw[e0] at g0
      exact ah rfl (.pointer (some ⟨rb,0,none⟩)) _ rfl (by go_simp) ⟨_,rfl,rfl,fun _=>rfl⟩
     case s2=>
      intro a w1 hw hO hN
      obtain rfl:w1=wr.drew:=hw (by decide)
      obtain⟨v1,g1,r1⟩:=aj hN 1 31
      have e1:v1=.pointer (some ⟨rb,0,none⟩):=r1
      rw[e1] at g1
      exact ah rfl (.pointer (some ⟨rb,0,none⟩)) _ rfl (by go_simp) ⟨_,rfl,rfl,fun _=>rfl⟩
     case s3=>
      intro a w1 hw hO hN
      obtain rfl:w1=wr.drew:=hw (by decide)
      obtain⟨v2,g2,r2⟩:=aj hN 2 32
      have e2:v2=.pointer (some ⟨rb,0,none⟩):=r2
      rw[e2] at g2
      have hc:wr.drew.cell? ⟨rb,0,none⟩=some (.pointer (some ⟨c,0,none⟩)):=HF.out.drew.rn.run.cell 0
      exact ah rfl (.pointer (some ⟨c,0,none⟩)) _ rfl (by go_simp) ⟨_,rfl,rfl,fun _=>rfl⟩
     case s4=>
      intro a w1 hw hO hN
      obtain rfl:w1=wr.drew:=hw (by decide)
      have o3:a.tmps[3]?=some (.pointer (some ⟨b3,0,none⟩)):=outs hO 3 rfl
      have hl:=eZ wr.drew b3 HF.out.drew.s3 hl
      exact ah rfl (.agg (ak s.1 s.2)) _ rfl (by simp[execOp,Act.eval,o3,hl,Result.andThen]) ⟨_,rfl,rfl,fun _=>rfl⟩
     case s5=>
      intro a w1 hw hO hN
      obtain rfl:w1=wr.drew:=hw (by decide)
      have o6:a.tmps[6]?=some (.slice (some ⟨rg,0,none⟩) cs.length rc):=outs hO 6 rfl
      exact ah rfl (.slice (some ⟨rg,0,none⟩) cs.length rc) _ rfl (by go_simp) ⟨_,rfl,rfl,fun _=>rfl⟩
     case s6=>
      intro a w1 hw hO hN
      obtain rfl:w1=wr.drew:=hw (by decide)
      have o9:a.tmps[9]?=some (.int .i64 (i:Int)):=outs hO 9 rfl
      exact ah rfl (.int .i64 (i:Int)) _ rfl (by go_simp) ⟨_,rfl,rfl,fun _=>rfl⟩
     case s7=>
      intro a w1 hw hO hN
      obtain rfl:w1=wr.drew:=hw (by decide)
      obtain⟨v5,g5,r5⟩:=aj hN 5 35
      have e5:v5=.slice (some ⟨rg,0,none⟩) cs.length rc:=r5
      rw[e5] at g5
      obtain⟨v6,g6,r6⟩:=aj hN 6 36
      have e6:v6=.int .i64 (i:Int):=r6
      rw[e6] at g6
      exact ah rfl (.pointer (some ⟨rg,i,none⟩)) _ rfl (by go_simp) ⟨_,rfl,rfl,fun _=>rfl⟩
     case s8=>
      intro a w1 hw hO hN
      obtain rfl:w1=wr.drew:=hw (by decide)
      obtain⟨v7,g7,r7⟩:=aj hN 7 37
      have e7:v7=.pointer (some ⟨rg,i,none⟩):=r7
      rw[e7] at g7
      have hc:wr.drew.cell? ⟨rg,i,none⟩=some (.int .i64 cc.1):=hrc
      exact ah rfl (.int .i64 cc.1) _ rfl (by go_simp) ⟨_,rfl,rfl,fun _=>rfl⟩
     case s9=>
      intro a w1 hw hO hN
      obtain rfl:w1=wr.drew:=hw (by decide)
      have o7:a.tmps[7]?=some (.slice (some ⟨mg,0,none⟩) cs.length mc):=outs hO 7 rfl
      exact ah rfl (.slice (some ⟨mg,0,none⟩) cs.length mc) _ rfl (by go_simp) ⟨_,rfl,rfl,fun _=>rfl⟩
     case s10=>
      intro a w1 hw hO hN
      obtain rfl:w1=wr.drew:=hw (by decide)
      have o9:a.tmps[9]?=some (.int .i64 (i:Int)):=outs hO 9 rfl
      exact ah rfl (.int .i64 (i:Int)) _ rfl (by go_simp) ⟨_,rfl,rfl,fun _=>rfl⟩
     case s11=>
      intro a w1 hw hO hN
      obtain rfl:w1=wr.drew:=hw (by decide)
      obtain⟨v9,g9,r9⟩:=aj hN 9 39
      have e9:v9=.slice (some ⟨mg,0,none⟩) cs.length mc:=r9
      rw[e9] at g9
      obtain⟨v10,g10,bM⟩:=aj hN 10 40
      have e10:v10=.int .i64 (i:Int):=bM
      rw[e10] at g10
      exact ah rfl (.pointer (some ⟨mg,i,none⟩)) _ rfl (by go_simp) ⟨_,rfl,rfl,fun _=>rfl⟩
     case s12=>
      intro a w1 hw hO hN
      obtain rfl:w1=wr.drew:=hw (by decide)
      obtain⟨v11,g11,bP⟩:=aj hN 11 41
      have e11:v11=.pointer (some ⟨mg,i,none⟩):=bP
      rw[e11] at g11
      have hc:wr.drew.cell? ⟨mg,i,none⟩=some (.int .i64 cc.2):=hmc
      exact ah rfl (.int .i64 cc.2) _ rfl (by go_simp) ⟨_,rfl,rfl,fun _=>rfl⟩
     case s13=>
      intro a w1 hw hO hN
      obtain rfl:w1=wr.drew:=hw (by decide)
      obtain⟨v3,g3,r3⟩:=aj hN 3 33
      have e3:v3=.pointer (some ⟨c,0,none⟩):=r3
      rw[e3] at g3
      obtain⟨v4,g4,r4⟩:=aj hN 4 34
      have e4:v4=.agg (ak s.1 s.2):=r4
      rw[e4] at g4
      obtain⟨v8,g8,r8⟩:=aj hN 8 38
      have e8:v8=.int .i64 cc.1:=r8
      rw[e8] at g8
      obtain⟨v12,g12,bT⟩:=aj hN 12 42
      have e12:v12=.int .i64 cc.2:=bT
      rw[e12] at g12
      refine aR rfl rfl 37 [.tmp 33,.tmp 34,.tmp 38,.tmp 42] #[29,27,43,3] rfl [.pointer (some ⟨c,0,none⟩),.agg (ak s.1 s.2),.int .i64 cc.1,.int .i64 cc.2] (by simp[Act.eval,g3,g4,g8,g12]) (enters_of Tryz.func37 (by kernel_rfl) rfl) (Calls.mono (KP.out wr.drew HF.out.drew.rn.tr) ?_)
      rintro e w3 ⟨sq,rfl,hs,ha⟩
      exact⟨_,rfl,_,rfl,⟨sq,rfl,hs,ha⟩,fun h=>absurd rfl h⟩
     case gG=>
      intro a w1 hw hO hN
      obtain⟨v13,g13,bY⟩:=aj hN 13 43
      obtain⟨sq,rfl,hs,ha⟩:=bY
      exact ah rfl (.tuple #[sq,.int .i64 pf.2.2]) _ rfl (by go_simp) ⟨_,rfl,⟨sq,rfl,hs,ha⟩,fun _=>rfl⟩
     case s15=>
      intro a w1 hw hO hN
      obtain⟨v14,g14,bZ⟩:=aj hN 14 29
      obtain⟨sq,rfl,hs,ha⟩:=bZ
      exact ah rfl sq _ rfl (by go_simp) ⟨_,rfl,⟨hs,ha⟩,fun _=>rfl⟩
     case s16=>
      intro a w1 hw hO hN
      obtain⟨v14,g14,bZ⟩:=aj hN 14 29
      obtain⟨sq,rfl,hs,ha⟩:=bZ
      exact ah rfl (.int .i64 pf.2.2) _ rfl (by go_simp) ⟨_,rfl,rfl,fun _=>rfl⟩
     case rW=>
      intro a w1 hw hO hN
      obtain⟨v15,g15,dI⟩:=aj hN 15 44
      exact ah rfl v15 _ rfl (by go_simp) ⟨_,rfl,dI,fun _=>rfl⟩
     case uJ=>
      intro a w1 hw hO hN
      obtain⟨v16,g16,r16⟩:=aj hN 16 45
      have e16:v16=.int .i64 pf.2.2:=r16
      rw[e16] at g16
      exact ah rfl (.int .i64 pf.2.2) _ rfl (by go_simp) ⟨_,rfl,rfl,fun _=>rfl⟩
    case fin=>
     intro vs w1 hV
     have e18:vs 18=.int .i64 pf.2.2:=hV 18 (by decide)
     obtain⟨vw,vB⟩:eu (vs 17) pf.1 w1/\aO wr.drew c u' pf.2.1 w1:=hV 17 (by decide)
     obtain⟨u4,vo⟩:=HF.out.drew.table vB
     have H4:=show Hid (CD w w1 base rb c u sv kvs u4 aW bn B ⟨pf.2.1,R'.st,R'.vs⟩ b3 s kv ks (.slice (some ⟨rg,0,none⟩) cs.length rc) (.slice (some ⟨mg,0,none⟩) cs.length mc) cs/\eu (vs 17) pf.1 w1) from⟨vo,vw⟩
     clear vo vw vB hV HF KP hrc hmc
     simp only[bg,Act.put,List.setIfInBounds_toArray,List.set_cons_zero,List.set_cons_succ,e18]
     clear e18
     generalize vs 17=sq at *
     by_cases hpe:pf.2.2=0
     ·have hpb:(pf.2.2 != 0)=false:=by rw[hpe];rfl
      obtain⟨gH,hE1,hrg,p,ps,hpp⟩:=tX.out hpe
      have ku:=hrg p (by rw[hpp];exact List.mem_cons_self ..)
      have rR:=ku.2.1
      rw[if_neg (by rw[hpe];simp),show pf.1.headD (Bt.Bs.zero,0)=p from by rw[hpp];rfl] at fE
      have nJ:=show Hid (Gs B n ⟨pf.2.1,R'.st,R'.vs⟩) from⟨HG2.out.gd.grow gH hE1,HG2.out.vs,HG2.out.st,HG2.out.fu,HG2.out.mx⟩
      have J6:=show Hid (Ext R.t pf.2.1) from HE.out.trans hE1
      have yA:=show Hid (∀ p ∈ pf.1,eD pf.2.1.length p/\Ok p.1) from hrg
      have Dq:=show Hid (pf.1=p :: ps/\(ps=[]\/∃ p2,ps=[p2])) from⟨hpp,(by have h:=tK.out;rw[hpp] at h;match ps,h with | [],_=>exact Or.inl rfl | [p2],_=>exact Or.inr ⟨p2,rfl⟩)⟩
      obtain⟨sp,sc,rfl⟩:=H4.out.2.form
      have hpos:(0:Int)<(pf.1.length:Int):=by rw[hpp];simp
      obtain⟨q,rfl,xD⟩:=H4.out.2.at (fun s hs=>(hrg s hs).2.1) (i:=0) (by rw[hpp];simp)
      have hin:iY w1 q 0 p.1 p.2:=by
       have e:pf.1[0]'(by rw[hpp];simp)=p:=by simp[hpp]
       rw[e,Nat.zero_mul] at xD
       exact xD
      have rC:=show Hid _ from hin
      have KD:=show Hid _ from HD.out w1 u4 aW bn ⟨pf.2.1,R'.st,R'.vs⟩ p H4.out.1.rn nJ.out.gd nJ.out.vs nJ.out.st nJ.out.fu ku.1 ku.2
      have HS:=show Hid (qK B ⟨pf.2.1,R'.st,R'.vs⟩ p (d ⟨pf.2.1,R'.st,R'.vs⟩ p)/\Gs B n (d ⟨pf.2.1,R'.st,R'.vs⟩ p).1) from⟨pQ.out _ p nJ.out.gd nJ.out.vs ku.1 ku.2,nJ.out.dec pQ.out ku.1 ku.2⟩
      clear gH hE1 hrg hin xD ku HG2 HE tX hpp
      generalize q8:d ⟨pf.2.1,R'.st,R'.vs⟩ p=qd at *
      clear q8
      go_wp2_with (refine kL _ rfl _ rfl q _ rfl rC.out rR ?_)
      refine Calls.mono KD.out ?_
      rintro e w5 ⟨rfl,u5,wL,kM,jT,iV⟩
      have H5:=show Hid (CD w w5 base rb c u sv kvs u5 wL kM B qd.1 b3 s kv ks (.slice (some ⟨rg,0,none⟩) cs.length rc) (.slice (some ⟨mg,0,none⟩) cs.length mc) cs/\eu (.slice (some ⟨q,0,none⟩) pf.1.length sc) pf.1 w5) from⟨H4.out.1.call jT iV,H4.out.2.Vx H4.out.1.rn iV⟩
      clear jT iV H4 KD rC
      by_cases he:qd.2.1=0
      ·have sG:(qd.2.1 != 0)=false:=by rw[he];rfl
       obtain⟨y,hy,hys,zY⟩:=HS.out.1.at he
       have J8:=show Hid (look qd.1.st p=some qd.2.2) from HS.out.1.lk he
       obtain⟨gs,yD,rfl,hpc⟩:=H5.out.1.rn.dG.pv hy
       have MQ:=(List.getElem?_eq_some_iff.1 hy).1
       have c1:w5.cell? ⟨rb,1,none⟩=some (.slice (some ⟨gs,0,none⟩) qd.1.st.length yD):=H5.out.1.rn.run.cell 1
       have GJ:(qd.2.2:Int)<(qd.1.st.length:Int):=by omega
       have hgd:=getD_some hy dX
       have Nu:qd.1.st.length<=100000:=by have:=HS.out.2.st;have:=HS.out.2.vs;have:=HS.out.2.mx;omega
       rw[if_neg (by rw[he];simp),hgd] at fE
       clear hgd
       obtain⟨SY,Um,hme,hmc⟩:=kN H5.out.1.mr hlt
       have zG:SY=mg:=by
        have CS:=(Value.slice.inj hme).1
        injection CS with h
        injection h with h
        exact h.symm
       rw[zG,yC cs hlt,Fa.out] at hmc
       obtain⟨Ze,Zo,hre,hrc⟩:=kN H5.out.1.rr hlt
       have hrg2:Ze=rg:=by
        have CS:=(Value.slice.inj hre).1
        injection CS with h
        injection h with h
        exact h.symm
       rw[hrg2,Aw cs hlt,Fa.out] at hrc
       have vC:=show Hid (w5.cell? ⟨mg,i,none⟩=some (.int .i64 cc.2)/\w5.cell? ⟨rg,i,none⟩=some (.int .i64 cc.1)) from⟨hmc,hrc⟩
       clear hmc hme zG hrc hre hrg2
       cases hpv:y.pv with
       | true=>
        rw[hpv] at hpc fE
        rw[if_pos rfl] at fE
        have Zf:=show Hid (y.pv=true) from hpv
        clear hpv zY
        have pR:=show Hid (P=eO d qd.1 ⟨s,false,cc.1,cc.2,[qd.2.2]⟩ ps) from(by
         have h:=fE.out
         rw[Dq.out.1] at h
         rw[h]
         show(if (d qd.1 p).2.1≠0 then _ else if ((d qd.1 p).1.st.getD (d qd.1 p).2.2 dX).pv=false then _ else _)=_
         rw[Zd.out qd.1 p _ J8.out]
         rw[if_neg (by simp)]
         simp only
         rw[getD_some hy dX,Zf.out,if_neg (by simp)]
         rfl)
        rcases Dq.out.2 with hps | ⟨p2,hps⟩
        ·subst hps
         have Nv:pf.1.length=1:=by rw[Dq.out.1];rfl
         have yH:P=(qd.1,0,⟨s,true,cc.1,cc.2,[qd.2.2]⟩):=pR.out
         subst yH
         rw[Nv] at H5
         clear fE pR Dq tK Ov
         have HX:=show Hid (∀ w1,Below w5.drew.heap.size w5.drew w1->CD w w1 base rb c u sv kvs u5 (.slice (some ⟨gs,0,none⟩) qd.1.st.length yD) kM B qd.1 b3 s kv ks (.slice (some ⟨rg,0,none⟩) cs.length rc) (.slice (some ⟨mg,0,none⟩) cs.length mc) cs/\w1.cell? ⟨mg,i,none⟩=some (.int .i64 cc.2)/\w1.cell? ⟨rg,i,none⟩=some (.int .i64 cc.1)) from fun w1 hb=>⟨H5.out.1.drew.later hb,oJ vC.out.1 hb,oJ vC.out.2 hb⟩
         have nM:=show Hid (w.heap.size<=w5.heap.size) from H5.out.1.af.kp.size
         go_wp2_with fail
         refine qU (by kernel_rfl) 12 (oh rb c u5 (.slice (some ⟨gs,0,none⟩) qd.1.st.length yD)) [some 76,some 77,some 78,some 79,some 80,some 81,some 82,some 83,some 84,some 85,some 86,some 87,some 88,some 89,some 90,some 4,some 5] [[],[],[],[],[2,3],[4],[],[],[6,7],[8],[],[10],[0,1,5,9,11],[12],[12],[13],[14]] [[],[],[],[],[2,3],[4,2,3],[],[],[6,7],[8,6,7],[],[10],[0,1,5,4,2,3,9,8,6,7,11,10],[12,0,1,5,4,2,3,9,8,6,7,11,10],[12,0,1,5,4,2,3,9,8,6,7,11,10],[13,12,0,1,5,4,2,3,9,8,6,7,11,10],[14,12,0,1,5,4,2,3,9,8,6,7,11,10]] (by kernel_rfl) (by decide) (fun ii vv w1=>match ii with | 0=>vv=.pointer (some ⟨rb,0,none⟩) | 1=>vv=.agg (ak s.1 s.2) | 2=>vv=.slice (some ⟨rg,0,none⟩) cs.length rc | 3=>vv=.int .i64 (i:Int) | 4=>vv=.pointer (some ⟨rg,i,none⟩) | 5=>vv=.int .i64 cc.1 | 6=>vv=.slice (some ⟨mg,0,none⟩) cs.length mc | 7=>vv=.int .i64 (i:Int) | 8=>vv=.pointer (some ⟨mg,i,none⟩) | 9=>vv=.int .i64 cc.2 | 10=>vv=.int .i64 (qd.2.2:Int) | 11=>NB w5 [qd.2.2] vv w1 | 12=>vv=.tuple #[.int .i64 (qd.1.st.length:Int),.int .i64 0]/\DP w base rb c u sv kvs B (gJ (qd.1,0,⟨s,true,cc.1,cc.2,[qd.2.2]⟩)) (.returned (.tuple #[.int .i64 (qd.1.st.length:Int),.int .i64 0])) w1 | 13=>vv=.int .i64 (qd.1.st.length:Int) | 14=>vv=.int .i64 0 | 15=>vv=.int .i64 (qd.1.st.length:Int) | 16=>vv=.int .i64 0 | _=>True) ?hmono ?hfree (bR 17 ?steps) ?fin
         case hmono=>
          intro j v w1 w2 hb h
          match j,h with
          | 0,h=>exact h
          | 1,h=>exact h
          | 2,h=>exact h
          | 3,h=>exact h
          | 4,h=>exact h
          | 5,h=>exact h
          | 6,h=>exact h
          | 7,h=>exact h
          | 8,h=>exact h
          | 9,h=>exact h
          | 10,h=>exact h
          | 11,h=>exact NB.later h hb
          | 12,h=>exact And.intro (And.left h) (DP.later (And.right h) hb)
          | 13,h=>exact h
          | 14,h=>exact h
          | 15,h=>exact h
          | 16,h=>exact h
          | _+17,_=>trivial
         case hfree=>
          intro j v w1 w2 hj hn hk h
          match j,h,hj,hn with
          | 0,h,_,_=>exact h
          | 1,h,_,_=>exact h
          | 2,h,_,_=>exact h
          | 3,h,_,_=>exact h
          | 4,h,_,_=>exact h
          | 5,h,_,_=>exact h
          | 6,h,_,_=>exact h
          | 7,h,_,_=>exact h
          | 8,h,_,_=>exact h
          | 9,h,_,_=>exact h
          | 10,h,_,_=>exact h
          | 11,h,_,_=>exact NB.kp h H5.out.1.rn hk
          | 12,_,hj,_=>exact absurd rfl hj
          | 13,_,_,hn=>exact absurd (by decide) hn
          | 14,_,_,hn=>exact absurd (by decide) hn
          | 15,_,_,hn=>exact absurd (by decide) hn
          | 16,_,_,hn=>exact absurd (by decide) hn
          | _+17,_,_,_=>trivial
         case steps=>
          refine⟨⟨⟨⟨⟨⟨⟨⟨⟨⟨⟨⟨⟨⟨⟨⟨⟨trivial,?s0⟩,?s1⟩,?s2⟩,?s3⟩,?s4⟩,?s5⟩,?s6⟩,?s7⟩,?s8⟩,?s9⟩,?s10⟩,?s11⟩,?s12⟩,?s13⟩,?gG⟩,?s15⟩,?s16⟩
          case s0=>
           intro a w1 hw hO hN
           have hw:=hw (by decide)
           have o0:a.tmps[0]?=some (.pointer (some ⟨rb,0,none⟩)):=outs hO 0 rfl
           exact ah rfl (.pointer (some ⟨rb,0,none⟩)) _ rfl (by go_simp) ⟨_,rfl,rfl,fun _=>Below.refl _ _,fun h=>absurd h (by decide)⟩
          case s1=>
           intro a w1 hw hO hN
           have hw:=hw (by decide)
           have o3:a.tmps[3]?=some (.pointer (some ⟨b3,0,none⟩)):=outs hO 3 rfl
           have hl:=eZ w1 b3 (HX.out w1 hw).1.s3 hl
           exact ah rfl (.agg (ak s.1 s.2)) _ rfl (by simp[execOp,Act.eval,o3,hl,Result.andThen]) ⟨_,rfl,rfl,fun _=>Below.refl _ _,fun h=>absurd h (by decide)⟩
          case s2=>
           intro a w1 hw hO hN
           have hw:=hw (by decide)
           have o6:a.tmps[6]?=some (.slice (some ⟨rg,0,none⟩) cs.length rc):=outs hO 6 rfl
           exact ah rfl (.slice (some ⟨rg,0,none⟩) cs.length rc) _ rfl (by go_simp) ⟨_,rfl,rfl,fun _=>Below.refl _ _,fun h=>absurd h (by decide)⟩
          case s3=>
           intro a w1 hw hO hN
           have hw:=hw (by decide)
           have o9:a.tmps[9]?=some (.int .i64 (i:Int)):=outs hO 9 rfl
           exact ah rfl (.int .i64 (i:Int)) _ rfl (by go_simp) ⟨_,rfl,rfl,fun _=>Below.refl _ _,fun h=>absurd h (by decide)⟩
          case s4=>
           intro a w1 hw hO hN
           have hw:=hw (by decide)
           obtain⟨v2,g2,r2⟩:=aj hN 2 78
           have e2:v2=.slice (some ⟨rg,0,none⟩) cs.length rc:=r2
           rw[e2] at g2
           obtain⟨v3,g3,r3⟩:=aj hN 3 79
           have e3:v3=.int .i64 (i:Int):=r3
           rw[e3] at g3
           exact ah rfl (.pointer (some ⟨rg,i,none⟩)) _ rfl (by go_simp) ⟨_,rfl,rfl,fun _=>Below.refl _ _,fun h=>absurd h (by decide)⟩
          case s5=>
           intro a w1 hw hO hN
           have hw:=hw (by decide)
           obtain⟨v4,g4,r4⟩:=aj hN 4 80
           have e4:v4=.pointer (some ⟨rg,i,none⟩):=r4
           rw[e4] at g4
           have hc:w1.cell? ⟨rg,i,none⟩=some (.int .i64 cc.1):=(HX.out w1 hw).2.2
           exact ah rfl (.int .i64 cc.1) _ rfl (by go_simp) ⟨_,rfl,rfl,fun _=>Below.refl _ _,fun h=>absurd h (by decide)⟩
          case s6=>
           intro a w1 hw hO hN
           have hw:=hw (by decide)
           have o7:a.tmps[7]?=some (.slice (some ⟨mg,0,none⟩) cs.length mc):=outs hO 7 rfl
           exact ah rfl (.slice (some ⟨mg,0,none⟩) cs.length mc) _ rfl (by go_simp) ⟨_,rfl,rfl,fun _=>Below.refl _ _,fun h=>absurd h (by decide)⟩
          case s7=>
           intro a w1 hw hO hN
           have hw:=hw (by decide)
           have o9:a.tmps[9]?=some (.int .i64 (i:Int)):=outs hO 9 rfl
           exact ah rfl (.int .i64 (i:Int)) _ rfl (by go_simp) ⟨_,rfl,rfl,fun _=>Below.refl _ _,fun h=>absurd h (by decide)⟩
          case s8=>
           intro a w1 hw hO hN
           have hw:=hw (by decide)
           obtain⟨v6,g6,r6⟩:=aj hN 6 82
           have e6:v6=.slice (some ⟨mg,0,none⟩) cs.length mc:=r6
           rw[e6] at g6
           obtain⟨v7,g7,r7⟩:=aj hN 7 83
           have e7:v7=.int .i64 (i:Int):=r7
           rw[e7] at g7
           exact ah rfl (.pointer (some ⟨mg,i,none⟩)) _ rfl (by go_simp) ⟨_,rfl,rfl,fun _=>Below.refl _ _,fun h=>absurd h (by decide)⟩
          case s9=>
           intro a w1 hw hO hN
           have hw:=hw (by decide)
           obtain⟨v8,g8,r8⟩:=aj hN 8 84
           have e8:v8=.pointer (some ⟨mg,i,none⟩):=r8
           rw[e8] at g8
           have hc:w1.cell? ⟨mg,i,none⟩=some (.int .i64 cc.2):=(HX.out w1 hw).2.1
           exact ah rfl (.int .i64 cc.2) _ rfl (by go_simp) ⟨_,rfl,rfl,fun _=>Below.refl _ _,fun h=>absurd h (by decide)⟩
          case s10=>
           intro a w1 hw hO hN
           have hw:=hw (by decide)
           have EO:a.tmps[12]?=some (.int .i64 (qd.2.2:Int)):=outs hO 12 rfl
           exact ah rfl (.int .i64 (qd.2.2:Int)) _ rfl (by go_simp) ⟨_,rfl,rfl,fun _=>Below.refl _ _,fun h=>absurd h (by decide)⟩
          case s11=>
           intro a w1 hw hO hN
           have hw:=hw (by decide)
           obtain⟨v10,g10,bM⟩:=aj hN 10 86
           have e10:v10=.int .i64 (qd.2.2:Int):=bM
           rw[e10] at g10
           have hbs:=SH w1 (qd.2.2:Int)
           have hsw:w5.heap.size<=w1.heap.size:=hw.size
           exact ah rfl (.slice (some ⟨w1.heap.size,0,none⟩) 1 1) (w1.alloc (.cells #[.int .i64 (qd.2.2:Int)] 3)) rfl (by simp[execOp,Act.eval,g10,hbs,Result.andThen]) ⟨_,rfl,⟨_,rfl,hsw,(aZ w1 _ _).blk⟩,fun _=>(aZ w1 _ _).au,fun h=>absurd h (by decide)⟩
          case s12=>
           intro a w1 hw hO hN
           have hw:=hw (by decide)
           obtain⟨v0,g0,r0⟩:=aj hN 0 76
           have e0:v0=.pointer (some ⟨rb,0,none⟩):=r0
           rw[e0] at g0
           obtain⟨v1,g1,r1⟩:=aj hN 1 77
           have e1:v1=.agg (ak s.1 s.2):=r1
           rw[e1] at g1
           obtain⟨v5,g5,r5⟩:=aj hN 5 81
           have e5:v5=.int .i64 cc.1:=r5
           rw[e5] at g5
           obtain⟨v9,g9,r9⟩:=aj hN 9 85
           have e9:v9=.int .i64 cc.2:=r9
           rw[e9] at g9
           obtain⟨v11,g11,bP⟩:=aj hN 11 87
           refine aR rfl rfl 38 [.tmp 76,.tmp 77,.const (.bool true),.tmp 81,.tmp 85,.tmp 87] #[69,27,4,43,3,44] rfl [.pointer (some ⟨rb,0,none⟩),.agg (ak s.1 s.2),.bool true,.int .i64 cc.1,.int .i64 cc.2,v11] (by simp[Act.eval,g0,g1,g5,g9,g11]) (enters_of Tryz.func38 (by kernel_rfl) rfl) (Calls.mono (oI w1 (HX.out w1 hw).1.rn (x:=⟨s,true,cc.1,cc.2,[qd.2.2]⟩) HQ.out.2 (NB.own bP (by simp) (nM.out)).1 wu.out Nu) ?_)
           rintro e w8 ⟨rfl,CU,gU,rG,bD⟩
           exact⟨_,rfl,_,rfl,⟨rfl,rfl,_,_,_,gU,(HX.out w1 hw).1.fin (fun k e=>Nat.le_trans nM.out ((NB.own bP (by simp) (nM.out)).2 k e)) gU rG bD⟩,fun h=>absurd rfl h,fun _=>bD⟩
          case s13=>
           intro a w1 hw hO hN
           obtain⟨v12,g12,bT⟩:=aj hN 12 88
           obtain⟨rfl,_⟩:=bT
           exact ah rfl (.int .i64 (qd.1.st.length:Int)) _ rfl (by go_simp) ⟨_,rfl,rfl,fun _=>Below.refl _ _,fun h=>absurd h (by decide)⟩
          case gG=>
           intro a w1 hw hO hN
           obtain⟨v12,g12,bT⟩:=aj hN 12 88
           obtain⟨rfl,_⟩:=bT
           exact ah rfl (.int .i64 0) _ rfl (by go_simp) ⟨_,rfl,rfl,fun _=>Below.refl _ _,fun h=>absurd h (by decide)⟩
          case s15=>
           intro a w1 hw hO hN
           obtain⟨v13,g13,bY⟩:=aj hN 13 89
           have e13:v13=.int .i64 (qd.1.st.length:Int):=bY
           rw[e13] at g13
           exact ah rfl (.int .i64 (qd.1.st.length:Int)) _ rfl (by go_simp) ⟨_,rfl,rfl,fun _=>Below.refl _ _,fun h=>absurd h (by decide)⟩
          case s16=>
           intro a w1 hw hO hN
           obtain⟨v14,g14,bZ⟩:=aj hN 14 90
           have e14:v14=.int .i64 0:=bZ
           rw[e14] at g14
           exact ah rfl (.int .i64 0) _ rfl (by go_simp) ⟨_,rfl,rfl,fun _=>Below.refl _ _,fun h=>absurd h (by decide)⟩
         case fin=>
          intro vs w1 hV
          have e1:vs 15=.int .i64 (qd.1.st.length:Int):=hV 15 (by decide)
          have e2:vs 16=.int .i64 0:=hV 16 (by decide)
          have hfin:vs 12=.tuple #[.int .i64 (qd.1.st.length:Int),.int .i64 0]/\DP w base rb c u sv kvs B (gJ (qd.1,0,⟨s,true,cc.1,cc.2,[qd.2.2]⟩)) (.returned (.tuple #[.int .i64 (qd.1.st.length:Int),.int .i64 0])) w1:=hV 12 (by decide)
          have iT:=show Hid _ from hfin.2
          clear hfin hV HX
          simp only[bg,Act.put,List.setIfInBounds_toArray,List.set_cons_zero,List.set_cons_succ,Nat.reduceAdd,Nat.zero_add,e1,e2]
          clear e1 e2
          go_wp2_with fail
          go_ret2
          exact iT.out
        ·subst hps
         have Nv:pf.1.length=2:=by rw[Dq.out.1];rfl
         have hnl:¬ (pf.1.length:Int)=1:=by omega
         have ZC:(1:Int)<(pf.1.length:Int):=by omega
         have hr2:=yA.out p2 (by rw[Dq.out.1];simp)
         have Uu:=hr2.2.1
         have hq2:eD qd.1.t.length p2:=jr HS.out.1.ext hr2.1
         obtain⟨qz,hqz,hin1⟩:=H5.out.2.at (fun s hs=>(yA.out s hs).2.1) (i:=1) (by omega)
         have hqq:qz=q:=by
          injection hqz with h
          injection h with h
          exact h.symm
         have TR:=show Hid (iY w5 q 17 p2.1 p2.2) from(by
          have e:pf.1[1]'(by omega)=p2:=by simp[Dq.out.1]
          rw[e,Nat.one_mul,hqq] at hin1
          exact hin1)
         clear hin1 hqz hqq
         have Vy:=show Hid _ from HD.out w5 u5 (.slice (some ⟨gs,0,none⟩) qd.1.st.length yD) kM qd.1 p2 H5.out.1.rn HS.out.2.gd HS.out.2.vs HS.out.2.st HS.out.2.fu hq2 hr2.2
         have HS2:=show Hid (qK B qd.1 p2 (d qd.1 p2)/\Gs B n (d qd.1 p2).1) from⟨pQ.out _ p2 HS.out.2.gd HS.out.2.vs hq2 hr2.2,HS.out.2.dec pQ.out hq2 hr2.2⟩
         have TS:=pR.out
         rw[Nr] at TS
         have tZ:=show Hid _ from TS
         clear TS pR fE hr2 hq2 Nv
         generalize d qd.1 p2=rd at *
         go_wp2_with (refine kL _ rfl _ rfl q _ rfl TR.out Uu ?_)
         refine Calls.mono Vy.out ?_
         rintro e w6 ⟨rfl,u6,sH,iW,rE,pF⟩
         have H6:=show Hid (CD w w6 base rb c u sv kvs u6 sH iW B rd.1 b3 s kv ks (.slice (some ⟨rg,0,none⟩) cs.length rc) (.slice (some ⟨mg,0,none⟩) cs.length mc) cs/\True) from⟨H5.out.1.call rE pF,trivial⟩
         clear rE pF H5 Vy TR vC c1 hpc
         by_cases he2:rd.2.1=0
         ·have WB:(rd.2.1 != 0)=false:=by rw[he2];rfl
          obtain⟨y2,hy2,_,_⟩:=HS2.out.1.at he2
          obtain⟨gs2,Dr,rfl,TT⟩:=H6.out.1.rn.dG.pv hy2
          have Tj:=(List.getElem?_eq_some_iff.1 hy2).1
          have c2:w6.cell? ⟨rb,1,none⟩=some (.slice (some ⟨gs2,0,none⟩) rd.1.st.length Dr):=H6.out.1.rn.run.cell 1
          have ZE:(rd.2.2:Int)<(rd.1.st.length:Int):=by omega
          have TU:rd.1.st.length<=100000:=by have:=HS2.out.2.st;have:=HS2.out.2.vs;have:=HS2.out.2.mx;omega
          rw[if_neg (by rw[he2];simp),getD_some hy2 dX] at tZ
          obtain⟨gz,WC,Kq,hmc⟩:=kN H6.out.1.mr hlt
          have hgz:gz=mg:=by
           have hz1:=(Value.slice.inj Kq).1
           injection hz1 with h
           injection h with h
           exact h.symm
          rw[hgz,yC cs hlt,Fa.out] at hmc
          clear Kq hgz
          obtain⟨gz,WC,Kq,hrc⟩:=kN H6.out.1.rr hlt
          have hgz:gz=rg:=by
           have hz1:=(Value.slice.inj Kq).1
           injection hz1 with h
           injection h with h
           exact h.symm
          rw[hgz,Aw cs hlt,Fa.out] at hrc
          clear Kq hgz
          have vC:=show Hid (w6.cell? ⟨mg,i,none⟩=some (.int .i64 cc.2)/\w6.cell? ⟨rg,i,none⟩=some (.int .i64 cc.1)) from⟨hmc,hrc⟩
          clear hmc hrc
          cases hpv2:y2.pv with
          | true=>
           rw[hpv2] at TT tZ
           rw[if_neg (by simp)] at tZ
           have yH:P=(rd.1,0,⟨s,true,cc.1,cc.2,[qd.2.2,rd.2.2]⟩):=tZ.out
           subst yH
           clear tZ Ov hpv2
           have HX:=show Hid (∀ w1,Below w6.drew.heap.size w6.drew w1->CD w w1 base rb c u sv kvs u6 (.slice (some ⟨gs2,0,none⟩) rd.1.st.length Dr) iW B rd.1 b3 s kv ks (.slice (some ⟨rg,0,none⟩) cs.length rc) (.slice (some ⟨mg,0,none⟩) cs.length mc) cs/\w1.cell? ⟨mg,i,none⟩=some (.int .i64 cc.2)/\w1.cell? ⟨rg,i,none⟩=some (.int .i64 cc.1)) from fun w1 hb=>⟨H6.out.1.drew.later hb,oJ vC.out.1 hb,oJ vC.out.2 hb⟩
           have nM:=show Hid (w.heap.size<=w6.heap.size) from H6.out.1.af.kp.size
           go_wp2_with fail
           refine qU (by kernel_rfl) 13 (oh rb c u6 (.slice (some ⟨gs2,0,none⟩) rd.1.st.length Dr)) [some 110,some 111,some 112,some 113,some 114,some 115,some 116,some 117,some 118,some 119,some 120,some 121,some 122,some 123,some 124,some 125,some 4,some 5] [[],[],[],[],[2,3],[4],[],[],[6,7],[8],[],[],[10,11],[0,1,5,9,12],[13],[13],[14],[15]] [[],[],[],[],[2,3],[4,2,3],[],[],[6,7],[8,6,7],[],[],[10,11],[0,1,5,4,2,3,9,8,6,7,12,10,11],[13,0,1,5,4,2,3,9,8,6,7,12,10,11],[13,0,1,5,4,2,3,9,8,6,7,12,10,11],[14,13,0,1,5,4,2,3,9,8,6,7,12,10,11],[15,13,0,1,5,4,2,3,9,8,6,7,12,10,11]] (by kernel_rfl) (by decide) (fun ii vv w1=>match ii with | 0=>vv=.pointer (some ⟨rb,0,none⟩) | 1=>vv=.agg (ak s.1 s.2) | 2=>vv=.slice (some ⟨rg,0,none⟩) cs.length rc | 3=>vv=.int .i64 (i:Int) | 4=>vv=.pointer (some ⟨rg,i,none⟩) | 5=>vv=.int .i64 cc.1 | 6=>vv=.slice (some ⟨mg,0,none⟩) cs.length mc | 7=>vv=.int .i64 (i:Int) | 8=>vv=.pointer (some ⟨mg,i,none⟩) | 9=>vv=.int .i64 cc.2 | 10=>vv=.int .i64 (qd.2.2:Int) | 11=>vv=.int .i64 (rd.2.2:Int) | 12=>NB w6 [qd.2.2,rd.2.2] vv w1 | 13=>vv=.tuple #[.int .i64 (rd.1.st.length:Int),.int .i64 0]/\DP w base rb c u sv kvs B (gJ (rd.1,0,⟨s,true,cc.1,cc.2,[qd.2.2,rd.2.2]⟩)) (.returned (.tuple #[.int .i64 (rd.1.st.length:Int),.int .i64 0])) w1 | 14=>vv=.int .i64 (rd.1.st.length:Int) | 15=>vv=.int .i64 0 | 16=>vv=.int .i64 (rd.1.st.length:Int) | 17=>vv=.int .i64 0 | _=>True) ?hmono ?hfree (bR 18 ?steps) ?fin
           case hmono=>
            intro j v w1 w2 hb h
            match j,h with
            | 0,h=>exact h
            | 1,h=>exact h
            | 2,h=>exact h
            | 3,h=>exact h
            | 4,h=>exact h
            | 5,h=>exact h
            | 6,h=>exact h
            | 7,h=>exact h
            | 8,h=>exact h
            | 9,h=>exact h
            | 10,h=>exact h
            | 11,h=>exact h
            | 12,h=>exact NB.later h hb
            | 13,h=>exact And.intro (And.left h) (DP.later (And.right h) hb)
            | 14,h=>exact h
            | 15,h=>exact h
            | 16,h=>exact h
            | 17,h=>exact h
            | _+18,_=>trivial
           case hfree=>
            intro j v w1 w2 hj hn hk h
            match j,h,hj,hn with
            | 0,h,_,_=>exact h
            | 1,h,_,_=>exact h
            | 2,h,_,_=>exact h
            | 3,h,_,_=>exact h
            | 4,h,_,_=>exact h
            | 5,h,_,_=>exact h
            | 6,h,_,_=>exact h
            | 7,h,_,_=>exact h
            | 8,h,_,_=>exact h
            | 9,h,_,_=>exact h
            | 10,h,_,_=>exact h
            | 11,h,_,_=>exact h
            | 12,h,_,_=>exact NB.kp h H6.out.1.rn hk
            | 13,_,hj,_=>exact absurd rfl hj
            | 14,_,_,hn=>exact absurd (by decide) hn
            | 15,_,_,hn=>exact absurd (by decide) hn
            | 16,_,_,hn=>exact absurd (by decide) hn
            | 17,_,_,hn=>exact absurd (by decide) hn
            | _+18,_,_,_=>trivial
           case steps=>
            refine⟨⟨⟨⟨⟨⟨⟨⟨⟨⟨⟨⟨⟨⟨⟨⟨⟨⟨trivial,?s0⟩,?s1⟩,?s2⟩,?s3⟩,?s4⟩,?s5⟩,?s6⟩,?s7⟩,?s8⟩,?s9⟩,?s10⟩,?s11⟩,?s12⟩,?s13⟩,?gG⟩,?s15⟩,?s16⟩,?rW⟩
            case s0=>
             intro a w1 hw hO hN
             have hw:=hw (by decide)
             have o0:a.tmps[0]?=some (.pointer (some ⟨rb,0,none⟩)):=outs hO 0 rfl
             exact ah rfl (.pointer (some ⟨rb,0,none⟩)) _ rfl (by go_simp) ⟨_,rfl,rfl,fun _=>Below.refl _ _,fun h=>absurd h (by decide)⟩
            case s1=>
             intro a w1 hw hO hN
             have hw:=hw (by decide)
             have o3:a.tmps[3]?=some (.pointer (some ⟨b3,0,none⟩)):=outs hO 3 rfl
             have hl:=eZ w1 b3 (HX.out w1 hw).1.s3 hl
             exact ah rfl (.agg (ak s.1 s.2)) _ rfl (by simp[execOp,Act.eval,o3,hl,Result.andThen]) ⟨_,rfl,rfl,fun _=>Below.refl _ _,fun h=>absurd h (by decide)⟩
            case s2=>
             intro a w1 hw hO hN
             have hw:=hw (by decide)
             have o6:a.tmps[6]?=some (.slice (some ⟨rg,0,none⟩) cs.length rc):=outs hO 6 rfl
             exact ah rfl (.slice (some ⟨rg,0,none⟩) cs.length rc) _ rfl (by go_simp) ⟨_,rfl,rfl,fun _=>Below.refl _ _,fun h=>absurd h (by decide)⟩
            case s3=>
             intro a w1 hw hO hN
             have hw:=hw (by decide)
             have o9:a.tmps[9]?=some (.int .i64 (i:Int)):=outs hO 9 rfl
             exact ah rfl (.int .i64 (i:Int)) _ rfl (by go_simp) ⟨_,rfl,rfl,fun _=>Below.refl _ _,fun h=>absurd h (by decide)⟩
            case s4=>
             intro a w1 hw hO hN
             have hw:=hw (by decide)
             obtain⟨v2,g2,r2⟩:=aj hN 2 112
             have e2:v2=.slice (some ⟨rg,0,none⟩) cs.length rc:=r2
             rw[e2] at g2
             obtain⟨v3,g3,r3⟩:=aj hN 3 113
             have e3:v3=.int .i64 (i:Int):=r3
             rw[e3] at g3
             exact ah rfl (.pointer (some ⟨rg,i,none⟩)) _ rfl (by go_simp) ⟨_,rfl,rfl,fun _=>Below.refl _ _,fun h=>absurd h (by decide)⟩
            case s5=>
             intro a w1 hw hO hN
             have hw:=hw (by decide)
             obtain⟨v4,g4,r4⟩:=aj hN 4 114
             have e4:v4=.pointer (some ⟨rg,i,none⟩):=r4
             rw[e4] at g4
             have hc:w1.cell? ⟨rg,i,none⟩=some (.int .i64 cc.1):=(HX.out w1 hw).2.2
             exact ah rfl (.int .i64 cc.1) _ rfl (by go_simp) ⟨_,rfl,rfl,fun _=>Below.refl _ _,fun h=>absurd h (by decide)⟩
            case s6=>
             intro a w1 hw hO hN
             have hw:=hw (by decide)
             have o7:a.tmps[7]?=some (.slice (some ⟨mg,0,none⟩) cs.length mc):=outs hO 7 rfl
             exact ah rfl (.slice (some ⟨mg,0,none⟩) cs.length mc) _ rfl (by go_simp) ⟨_,rfl,rfl,fun _=>Below.refl _ _,fun h=>absurd h (by decide)⟩
            case s7=>
             intro a w1 hw hO hN
             have hw:=hw (by decide)
             have o9:a.tmps[9]?=some (.int .i64 (i:Int)):=outs hO 9 rfl
             exact ah rfl (.int .i64 (i:Int)) _ rfl (by go_simp) ⟨_,rfl,rfl,fun _=>Below.refl _ _,fun h=>absurd h (by decide)⟩
            case s8=>
             intro a w1 hw hO hN
             have hw:=hw (by decide)
             obtain⟨v6,g6,r6⟩:=aj hN 6 116
             have e6:v6=.slice (some ⟨mg,0,none⟩) cs.length mc:=r6
             rw[e6] at g6
             obtain⟨v7,g7,r7⟩:=aj hN 7 117
             have e7:v7=.int .i64 (i:Int):=r7
             rw[e7] at g7
             exact ah rfl (.pointer (some ⟨mg,i,none⟩)) _ rfl (by go_simp) ⟨_,rfl,rfl,fun _=>Below.refl _ _,fun h=>absurd h (by decide)⟩
            case s9=>
             intro a w1 hw hO hN
             have hw:=hw (by decide)
             obtain⟨v8,g8,r8⟩:=aj hN 8 118
             have e8:v8=.pointer (some ⟨mg,i,none⟩):=r8
             rw[e8] at g8
             have hc:w1.cell? ⟨mg,i,none⟩=some (.int .i64 cc.2):=(HX.out w1 hw).2.1
             exact ah rfl (.int .i64 cc.2) _ rfl (by go_simp) ⟨_,rfl,rfl,fun _=>Below.refl _ _,fun h=>absurd h (by decide)⟩
            case s10=>
             intro a w1 hw hO hN
             have hw:=hw (by decide)
             have EO:a.tmps[12]?=some (.int .i64 (qd.2.2:Int)):=outs hO 12 rfl
             exact ah rfl (.int .i64 (qd.2.2:Int)) _ rfl (by go_simp) ⟨_,rfl,rfl,fun _=>Below.refl _ _,fun h=>absurd h (by decide)⟩
            case s11=>
             intro a w1 hw hO hN
             have hw:=hw (by decide)
             have SB:a.tmps[13]?=some (.int .i64 (rd.2.2:Int)):=outs hO 13 rfl
             exact ah rfl (.int .i64 (rd.2.2:Int)) _ rfl (by go_simp) ⟨_,rfl,rfl,fun _=>Below.refl _ _,fun h=>absurd h (by decide)⟩
            case s12=>
             intro a w1 hw hO hN
             have hw:=hw (by decide)
             obtain⟨v10,g10,bM⟩:=aj hN 10 120
             have e10:v10=.int .i64 (qd.2.2:Int):=bM
             rw[e10] at g10
             obtain⟨v11,g11,bP⟩:=aj hN 11 121
             have e11:v11=.int .i64 (rd.2.2:Int):=bP
             rw[e11] at g11
             have hbs:=WA w1 (qd.2.2:Int) (rd.2.2:Int)
             have hsw:w6.heap.size<=w1.heap.size:=hw.size
             exact ah rfl (.slice (some ⟨w1.heap.size,0,none⟩) 2 2) (w1.alloc (.cells #[.int .i64 (qd.2.2:Int),.int .i64 (rd.2.2:Int)] 3)) rfl (by simp[execOp,Act.eval,g10,g11,hbs,Result.andThen]) ⟨_,rfl,⟨_,rfl,hsw,(aZ w1 _ _).blk⟩,fun _=>(aZ w1 _ _).au,fun h=>absurd h (by decide)⟩
            case s13=>
             intro a w1 hw hO hN
             have hw:=hw (by decide)
             obtain⟨v0,g0,r0⟩:=aj hN 0 110
             have e0:v0=.pointer (some ⟨rb,0,none⟩):=r0
             rw[e0] at g0
             obtain⟨v1,g1,r1⟩:=aj hN 1 111
             have e1:v1=.agg (ak s.1 s.2):=r1
             rw[e1] at g1
             obtain⟨v5,g5,r5⟩:=aj hN 5 115
             have e5:v5=.int .i64 cc.1:=r5
             rw[e5] at g5
             obtain⟨v9,g9,r9⟩:=aj hN 9 119
             have e9:v9=.int .i64 cc.2:=r9
             rw[e9] at g9
             obtain⟨v12,g12,bT⟩:=aj hN 12 122
             refine aR rfl rfl 38 [.tmp 110,.tmp 111,.const (.bool true),.tmp 115,.tmp 119,.tmp 122] #[69,27,4,43,3,44] rfl [.pointer (some ⟨rb,0,none⟩),.agg (ak s.1 s.2),.bool true,.int .i64 cc.1,.int .i64 cc.2,v12] (by simp[Act.eval,g0,g1,g5,g9,g12]) (enters_of Tryz.func38 (by kernel_rfl) rfl) (Calls.mono (oI w1 (HX.out w1 hw).1.rn (x:=⟨s,true,cc.1,cc.2,[qd.2.2,rd.2.2]⟩) HQ.out.2 (NB.own bT (by simp) (nM.out)).1 wu.out TU) ?_)
             rintro e w8 ⟨rfl,CU,gU,rG,bD⟩
             exact⟨_,rfl,_,rfl,⟨rfl,rfl,_,_,_,gU,(HX.out w1 hw).1.fin (fun k e=>Nat.le_trans nM.out ((NB.own bT (by simp) (nM.out)).2 k e)) gU rG bD⟩,fun h=>absurd rfl h,fun _=>bD⟩
            case gG=>
             intro a w1 hw hO hN
             obtain⟨v13,g13,bY⟩:=aj hN 13 123
             obtain⟨rfl,_⟩:=bY
             exact ah rfl (.int .i64 (rd.1.st.length:Int)) _ rfl (by go_simp) ⟨_,rfl,rfl,fun _=>Below.refl _ _,fun h=>absurd h (by decide)⟩
            case s15=>
             intro a w1 hw hO hN
             obtain⟨v13,g13,bY⟩:=aj hN 13 123
             obtain⟨rfl,_⟩:=bY
             exact ah rfl (.int .i64 0) _ rfl (by go_simp) ⟨_,rfl,rfl,fun _=>Below.refl _ _,fun h=>absurd h (by decide)⟩
            case s16=>
             intro a w1 hw hO hN
             obtain⟨v14,g14,bZ⟩:=aj hN 14 124
             have e14:v14=.int .i64 (rd.1.st.length:Int):=bZ
             rw[e14] at g14
             exact ah rfl (.int .i64 (rd.1.st.length:Int)) _ rfl (by go_simp) ⟨_,rfl,rfl,fun _=>Below.refl _ _,fun h=>absurd h (by decide)⟩
            case rW=>
             intro a w1 hw hO hN
             obtain⟨v15,g15,dI⟩:=aj hN 15 125
             have e15:v15=.int .i64 0:=dI
             rw[e15] at g15
             exact ah rfl (.int .i64 0) _ rfl (by go_simp) ⟨_,rfl,rfl,fun _=>Below.refl _ _,fun h=>absurd h (by decide)⟩
           case fin=>
            intro vs w1 hV
            have e1:vs 16=.int .i64 (rd.1.st.length:Int):=hV 16 (by decide)
            have e2:vs 17=.int .i64 0:=hV 17 (by decide)
            have hfin:vs 13=.tuple #[.int .i64 (rd.1.st.length:Int),.int .i64 0]/\DP w base rb c u sv kvs B (gJ (rd.1,0,⟨s,true,cc.1,cc.2,[qd.2.2,rd.2.2]⟩)) (.returned (.tuple #[.int .i64 (rd.1.st.length:Int),.int .i64 0])) w1:=hV 13 (by decide)
            have iT:=show Hid _ from hfin.2
            clear hfin hV HX
            simp only[bg,Act.put,List.setIfInBounds_toArray,List.set_cons_zero,List.set_cons_succ,Nat.reduceAdd,Nat.zero_add,e1,e2]
            clear e1 e2
            go_wp2_with fail
            go_ret2
            exact iT.out
          | false=>
           rw[hpv2] at TT tZ
           rw[if_pos rfl] at tZ
           have yH:P=(rd.1,0,⟨s,false,cc.1,cc.2,[rd.2.2]⟩):=tZ.out
           subst yH
           clear tZ Ov hpv2
           have HX:=show Hid (∀ w1,Below w6.drew.heap.size w6.drew w1->CD w w1 base rb c u sv kvs u6 (.slice (some ⟨gs2,0,none⟩) rd.1.st.length Dr) iW B rd.1 b3 s kv ks (.slice (some ⟨rg,0,none⟩) cs.length rc) (.slice (some ⟨mg,0,none⟩) cs.length mc) cs/\w1.cell? ⟨mg,i,none⟩=some (.int .i64 cc.2)/\w1.cell? ⟨rg,i,none⟩=some (.int .i64 cc.1)) from fun w1 hb=>⟨H6.out.1.drew.later hb,oJ vC.out.1 hb,oJ vC.out.2 hb⟩
           have nM:=show Hid (w.heap.size<=w6.heap.size) from H6.out.1.af.kp.size
           go_wp2_with fail
           refine qU (by kernel_rfl) 12 (oh rb c u6 (.slice (some ⟨gs2,0,none⟩) rd.1.st.length Dr)) [some 126,some 127,some 128,some 129,some 130,some 131,some 132,some 133,some 134,some 135,some 136,some 137,some 138,some 139,some 140,some 4,some 5] [[],[],[],[],[2,3],[4],[],[],[6,7],[8],[],[10],[0,1,5,9,11],[12],[12],[13],[14]] [[],[],[],[],[2,3],[4,2,3],[],[],[6,7],[8,6,7],[],[10],[0,1,5,4,2,3,9,8,6,7,11,10],[12,0,1,5,4,2,3,9,8,6,7,11,10],[12,0,1,5,4,2,3,9,8,6,7,11,10],[13,12,0,1,5,4,2,3,9,8,6,7,11,10],[14,12,0,1,5,4,2,3,9,8,6,7,11,10]] (by kernel_rfl) (by decide) (fun ii vv w1=>match ii with | 0=>vv=.pointer (some ⟨rb,0,none⟩) | 1=>vv=.agg (ak s.1 s.2) | 2=>vv=.slice (some ⟨rg,0,none⟩) cs.length rc | 3=>vv=.int .i64 (i:Int) | 4=>vv=.pointer (some ⟨rg,i,none⟩) | 5=>vv=.int .i64 cc.1 | 6=>vv=.slice (some ⟨mg,0,none⟩) cs.length mc | 7=>vv=.int .i64 (i:Int) | 8=>vv=.pointer (some ⟨mg,i,none⟩) | 9=>vv=.int .i64 cc.2 | 10=>vv=.int .i64 (rd.2.2:Int) | 11=>NB w6 [rd.2.2] vv w1 | 12=>vv=.tuple #[.int .i64 (rd.1.st.length:Int),.int .i64 0]/\DP w base rb c u sv kvs B (gJ (rd.1,0,⟨s,false,cc.1,cc.2,[rd.2.2]⟩)) (.returned (.tuple #[.int .i64 (rd.1.st.length:Int),.int .i64 0])) w1 | 13=>vv=.int .i64 (rd.1.st.length:Int) | 14=>vv=.int .i64 0 | 15=>vv=.int .i64 (rd.1.st.length:Int) | 16=>vv=.int .i64 0 | _=>True) ?hmono ?hfree (bR 17 ?steps) ?fin
           case hmono=>
            intro j v w1 w2 hb h
            match j,h with
            | 0,h=>exact h
            | 1,h=>exact h
            | 2,h=>exact h
            | 3,h=>exact h
            | 4,h=>exact h
            | 5,h=>exact h
            | 6,h=>exact h
            | 7,h=>exact h
            | 8,h=>exact h
            | 9,h=>exact h
            | 10,h=>exact h
            | 11,h=>exact NB.later h hb
            | 12,h=>exact And.intro (And.left h) (DP.later (And.right h) hb)
            | 13,h=>exact h
            | 14,h=>exact h
            | 15,h=>exact h
            | 16,h=>exact h
            | _+17,_=>trivial
           case hfree=>
            intro j v w1 w2 hj hn hk h
            match j,h,hj,hn with
            | 0,h,_,_=>exact h
            | 1,h,_,_=>exact h
            | 2,h,_,_=>exact h
            | 3,h,_,_=>exact h
            | 4,h,_,_=>exact h
            | 5,h,_,_=>exact h
            | 6,h,_,_=>exact h
            | 7,h,_,_=>exact h
            | 8,h,_,_=>exact h
            | 9,h,_,_=>exact h
            | 10,h,_,_=>exact h
            | 11,h,_,_=>exact NB.kp h H6.out.1.rn hk
            | 12,_,hj,_=>exact absurd rfl hj
            | 13,_,_,hn=>exact absurd (by decide) hn
            | 14,_,_,hn=>exact absurd (by decide) hn
            | 15,_,_,hn=>exact absurd (by decide) hn
            | 16,_,_,hn=>exact absurd (by decide) hn
            | _+17,_,_,_=>trivial
           case steps=>
            refine⟨⟨⟨⟨⟨⟨⟨⟨⟨⟨⟨⟨⟨⟨⟨⟨⟨trivial,?s0⟩,?s1⟩,?s2⟩,?s3⟩,?s4⟩,?s5⟩,?s6⟩,?s7⟩,?s8⟩,?s9⟩,?s10⟩,?s11⟩,?s12⟩,?s13⟩,?gG⟩,?s15⟩,?s16⟩
            case s0=>
             intro a w1 hw hO hN
             have hw:=hw (by decide)
             have o0:a.tmps[0]?=some (.pointer (some ⟨rb,0,none⟩)):=outs hO 0 rfl
             exact ah rfl (.pointer (some ⟨rb,0,none⟩)) _ rfl (by go_simp) ⟨_,rfl,rfl,fun _=>Below.refl _ _,fun h=>absurd h (by decide)⟩
            case s1=>
             intro a w1 hw hO hN
             have hw:=hw (by decide)
             have o3:a.tmps[3]?=some (.pointer (some ⟨b3,0,none⟩)):=outs hO 3 rfl
             have hl:=eZ w1 b3 (HX.out w1 hw).1.s3 hl
             exact ah rfl (.agg (ak s.1 s.2)) _ rfl (by simp[execOp,Act.eval,o3,hl,Result.andThen]) ⟨_,rfl,rfl,fun _=>Below.refl _ _,fun h=>absurd h (by decide)⟩
            case s2=>
             intro a w1 hw hO hN
             have hw:=hw (by decide)
             have o6:a.tmps[6]?=some (.slice (some ⟨rg,0,none⟩) cs.length rc):=outs hO 6 rfl
             exact ah rfl (.slice (some ⟨rg,0,none⟩) cs.length rc) _ rfl (by go_simp) ⟨_,rfl,rfl,fun _=>Below.refl _ _,fun h=>absurd h (by decide)⟩
            case s3=>
             intro a w1 hw hO hN
             have hw:=hw (by decide)
             have o9:a.tmps[9]?=some (.int .i64 (i:Int)):=outs hO 9 rfl
             exact ah rfl (.int .i64 (i:Int)) _ rfl (by go_simp) ⟨_,rfl,rfl,fun _=>Below.refl _ _,fun h=>absurd h (by decide)⟩
            case s4=>
             intro a w1 hw hO hN
             have hw:=hw (by decide)
             obtain⟨v2,g2,r2⟩:=aj hN 2 128
             have e2:v2=.slice (some ⟨rg,0,none⟩) cs.length rc:=r2
             rw[e2] at g2
             obtain⟨v3,g3,r3⟩:=aj hN 3 129
             have e3:v3=.int .i64 (i:Int):=r3
             rw[e3] at g3
             exact ah rfl (.pointer (some ⟨rg,i,none⟩)) _ rfl (by go_simp) ⟨_,rfl,rfl,fun _=>Below.refl _ _,fun h=>absurd h (by decide)⟩
            case s5=>
             intro a w1 hw hO hN
             have hw:=hw (by decide)
             obtain⟨v4,g4,r4⟩:=aj hN 4 130
             have e4:v4=.pointer (some ⟨rg,i,none⟩):=r4
             rw[e4] at g4
             have hc:w1.cell? ⟨rg,i,none⟩=some (.int .i64 cc.1):=(HX.out w1 hw).2.2
             exact ah rfl (.int .i64 cc.1) _ rfl (by go_simp) ⟨_,rfl,rfl,fun _=>Below.refl _ _,fun h=>absurd h (by decide)⟩
            case s6=>
             intro a w1 hw hO hN
             have hw:=hw (by decide)
             have o7:a.tmps[7]?=some (.slice (some ⟨mg,0,none⟩) cs.length mc):=outs hO 7 rfl
             exact ah rfl (.slice (some ⟨mg,0,none⟩) cs.length mc) _ rfl (by go_simp) ⟨_,rfl,rfl,fun _=>Below.refl _ _,fun h=>absurd h (by decide)⟩
            case s7=>
             intro a w1 hw hO hN
             have hw:=hw (by decide)
             have o9:a.tmps[9]?=some (.int .i64 (i:Int)):=outs hO 9 rfl
             exact ah rfl (.int .i64 (i:Int)) _ rfl (by go_simp) ⟨_,rfl,rfl,fun _=>Below.refl _ _,fun h=>absurd h (by decide)⟩
            case s8=>
             intro a w1 hw hO hN
             have hw:=hw (by decide)
             obtain⟨v6,g6,r6⟩:=aj hN 6 132
             have e6:v6=.slice (some ⟨mg,0,none⟩) cs.length mc:=r6
             rw[e6] at g6
             obtain⟨v7,g7,r7⟩:=aj hN 7 133
             have e7:v7=.int .i64 (i:Int):=r7
             rw[e7] at g7
             exact ah rfl (.pointer (some ⟨mg,i,none⟩)) _ rfl (by go_simp) ⟨_,rfl,rfl,fun _=>Below.refl _ _,fun h=>absurd h (by decide)⟩
            case s9=>
             intro a w1 hw hO hN
             have hw:=hw (by decide)
             obtain⟨v8,g8,r8⟩:=aj hN 8 134
             have e8:v8=.pointer (some ⟨mg,i,none⟩):=r8
             rw[e8] at g8
             have hc:w1.cell? ⟨mg,i,none⟩=some (.int .i64 cc.2):=(HX.out w1 hw).2.1
             exact ah rfl (.int .i64 cc.2) _ rfl (by go_simp) ⟨_,rfl,rfl,fun _=>Below.refl _ _,fun h=>absurd h (by decide)⟩
            case s10=>
             intro a w1 hw hO hN
             have hw:=hw (by decide)
             have SB:a.tmps[13]?=some (.int .i64 (rd.2.2:Int)):=outs hO 13 rfl
             exact ah rfl (.int .i64 (rd.2.2:Int)) _ rfl (by go_simp) ⟨_,rfl,rfl,fun _=>Below.refl _ _,fun h=>absurd h (by decide)⟩
            case s11=>
             intro a w1 hw hO hN
             have hw:=hw (by decide)
             obtain⟨v10,g10,bM⟩:=aj hN 10 136
             have e10:v10=.int .i64 (rd.2.2:Int):=bM
             rw[e10] at g10
             have hbs:=SH w1 (rd.2.2:Int)
             have hsw:w6.heap.size<=w1.heap.size:=hw.size
             exact ah rfl (.slice (some ⟨w1.heap.size,0,none⟩) 1 1) (w1.alloc (.cells #[.int .i64 (rd.2.2:Int)] 3)) rfl (by simp[execOp,Act.eval,g10,hbs,Result.andThen]) ⟨_,rfl,⟨_,rfl,hsw,(aZ w1 _ _).blk⟩,fun _=>(aZ w1 _ _).au,fun h=>absurd h (by decide)⟩
            case s12=>
             intro a w1 hw hO hN
             have hw:=hw (by decide)
             obtain⟨v0,g0,r0⟩:=aj hN 0 126
             have e0:v0=.pointer (some ⟨rb,0,none⟩):=r0
             rw[e0] at g0
             obtain⟨v1,g1,r1⟩:=aj hN 1 127
             have e1:v1=.agg (ak s.1 s.2):=r1
             rw[e1] at g1
             obtain⟨v5,g5,r5⟩:=aj hN 5 131
             have e5:v5=.int .i64 cc.1:=r5
             rw[e5] at g5
             obtain⟨v9,g9,r9⟩:=aj hN 9 135
             have e9:v9=.int .i64 cc.2:=r9
             rw[e9] at g9
             obtain⟨v11,g11,bP⟩:=aj hN 11 137
             refine aR rfl rfl 38 [.tmp 126,.tmp 127,.const (.bool false),.tmp 131,.tmp 135,.tmp 137] #[69,27,4,43,3,44] rfl [.pointer (some ⟨rb,0,none⟩),.agg (ak s.1 s.2),.bool false,.int .i64 cc.1,.int .i64 cc.2,v11] (by simp[Act.eval,g0,g1,g5,g9,g11]) (enters_of Tryz.func38 (by kernel_rfl) rfl) (Calls.mono (oI w1 (HX.out w1 hw).1.rn (x:=⟨s,false,cc.1,cc.2,[rd.2.2]⟩) HQ.out.2 (NB.own bP (by simp) (nM.out)).1 wu.out TU) ?_)
             rintro e w8 ⟨rfl,CU,gU,rG,bD⟩
             exact⟨_,rfl,_,rfl,⟨rfl,rfl,_,_,_,gU,(HX.out w1 hw).1.fin (fun k e=>Nat.le_trans nM.out ((NB.own bP (by simp) (nM.out)).2 k e)) gU rG bD⟩,fun h=>absurd rfl h,fun _=>bD⟩
            case s13=>
             intro a w1 hw hO hN
             obtain⟨v12,g12,bT⟩:=aj hN 12 138
             obtain⟨rfl,_⟩:=bT
             exact ah rfl (.int .i64 (rd.1.st.length:Int)) _ rfl (by go_simp) ⟨_,rfl,rfl,fun _=>Below.refl _ _,fun h=>absurd h (by decide)⟩
            case gG=>
             intro a w1 hw hO hN
             obtain⟨v12,g12,bT⟩:=aj hN 12 138
             obtain⟨rfl,_⟩:=bT
             exact ah rfl (.int .i64 0) _ rfl (by go_simp) ⟨_,rfl,rfl,fun _=>Below.refl _ _,fun h=>absurd h (by decide)⟩
            case s15=>
             intro a w1 hw hO hN
             obtain⟨v13,g13,bY⟩:=aj hN 13 139
             have e13:v13=.int .i64 (rd.1.st.length:Int):=bY
             rw[e13] at g13
             exact ah rfl (.int .i64 (rd.1.st.length:Int)) _ rfl (by go_simp) ⟨_,rfl,rfl,fun _=>Below.refl _ _,fun h=>absurd h (by decide)⟩
            case s16=>
             intro a w1 hw hO hN
             obtain⟨v14,g14,bZ⟩:=aj hN 14 140
             have e14:v14=.int .i64 0:=bZ
             rw[e14] at g14
             exact ah rfl (.int .i64 0) _ rfl (by go_simp) ⟨_,rfl,rfl,fun _=>Below.refl _ _,fun h=>absurd h (by decide)⟩
           case fin=>
            intro vs w1 hV
            have e1:vs 15=.int .i64 (rd.1.st.length:Int):=hV 15 (by decide)
            have e2:vs 16=.int .i64 0:=hV 16 (by decide)
            have hfin:vs 12=.tuple #[.int .i64 (rd.1.st.length:Int),.int .i64 0]/\DP w base rb c u sv kvs B (gJ (rd.1,0,⟨s,false,cc.1,cc.2,[rd.2.2]⟩)) (.returned (.tuple #[.int .i64 (rd.1.st.length:Int),.int .i64 0])) w1:=hV 12 (by decide)
            have iT:=show Hid _ from hfin.2
            clear hfin hV HX
            simp only[bg,Act.put,List.setIfInBounds_toArray,List.set_cons_zero,List.set_cons_succ,Nat.reduceAdd,Nat.zero_add,e1,e2]
            clear e1 e2
            go_wp2_with fail
            go_ret2
            exact iT.out
         ·have WB:(rd.2.1 != 0)=true:=by simpa using he2
          rw[if_pos he2] at tZ
          have hp3:gJ P=(rd.1,rd.2.1,0):=by rw[tZ.out];unfold gJ;rw[if_pos he2]
          have iT:=show Hid (DP w base rb c u sv kvs B (gJ P) (.returned (.tuple #[.int .i64 0,.int .i64 rd.2.1])) w6) from(by rw[hp3];exact⟨rfl,_,_,_,H6.out.1.rn,H6.out.1.af⟩)
          clear tZ H6 hp3
          go_wp2_with fail
          go_ret2
          exact iT.out
       | false=>
        rw[hpv] at hpc fE
        rw[if_neg (by simp)] at fE
        clear hpv zY vC
        go_wp2_with (refine l6 rfl _ rfl _ rfl ?_)
        intro w6 q6 fQ
        have H6:=show Hid _ from H5.out.1.later fQ.au
        have hcq:w6.cell? ⟨q6,0,none⟩=some (.int .i64 (qd.2.2:Int)):=Cl.cell fQ.blk 0
        obtain⟨i0,hi0,hz0,hz1,hz2⟩:=info_parts yx
        have qN:=CJ.out
        have hsz:=H6.out.af.kp.size
        clear fQ H5 c1 hpc
        go_wp2_with (at_builtin;refine wpList_append_own_at _ rfl (.tmp 69) (.tmp 71) 44 rfl w.heap.size 3 i0 (.int .i64 0) 1 8 Tryz.underlying44 hi0 hz0 hz1 hz2 rfl (by decide) kv ks.length (fJ ks) rfl H6.out.kd ⟨q6,0,none⟩ 1 1 [.int .i64 (qd.2.2:Int)] rfl rfl (oG hcq) (by intro u hu;simp at hu;subst hu;rfl) (by unfold maxLen;omega) (by omega) hsz ?_)
        intro uZ w7 kC rD _ mZ
        have hln:ks.length+1=(ks ++ [qd.2.2]).length:=by simp
        have H8:=show Hid _ from H6.out.app rD (ks':=ks ++ [qd.2.2]) (by rw[tJ,<- hln,qN];exact kC) mZ
        have CO:=show Hid (Ext R.t qd.1.t) from J6.out.trans HS.out.1.ext
        have CP:=show Hid (Gs B n qd.1) from HS.out.2
        clear kC rD mZ hcq hi0 hz0 hz1 hz2 hln H6 J6 nJ HS J8
        go_wp2_with fail
        go_roundw
        case rel=>exact⟨i+1,_,_,_,_,_,by omega,by go_num,fE,H8,CP,CO,show(ks ++ [qd.2.2]).length=i+1 from by rw[List.length_append,qN];rfl⟩
        case measure=>first|(simp[intOf];done)|(simp[intOf];omega)
      ·have sG:(qd.2.1 != 0)=true:=by simpa using he
       rw[if_pos he] at fE
       have hp3:gJ P=(qd.1,qd.2.1,0):=by rw[fE.out];unfold gJ;rw[if_pos he]
       have iT:=show Hid (DP w base rb c u sv kvs B (gJ P) (.returned (.tuple #[.int .i64 0,.int .i64 qd.2.1])) w5) from(by rw[hp3];exact⟨rfl,_,_,_,H5.out.1.rn,H5.out.1.af⟩)
       clear fE H5 hp3
       go_wp2_with fail
       go_ret2
       exact iT.out
     ·have hpb:(pf.2.2 != 0)=true:=by simpa using hpe
      have hp3:gJ P=(⟨pf.2.1,R'.st,R'.vs⟩,pf.2.2,0):=by rw[fE.out,if_pos hpe];unfold gJ;rw[if_pos hpe]
      have iT:=show Hid (DP w base rb c u sv kvs B (gJ P) (.returned (.tuple #[.int .i64 0,.int .i64 pf.2.2])) w1) from(by rw[hp3];exact⟨rfl,_,_,_,H4.out.1.rn,H4.out.1.af⟩)
      clear fE H4 hp3
      go_wp2_with fail
      go_ret2
      exact iT.out
   ·have hil:¬ (i:Int)<(cs.length:Int):=by omega
    have hp3:P=(R',0,⟨s,false,14,0,ks⟩):=by rw[lN.out,List.drop_of_length_le (by omega)];rfl
    have Ah:=show Hid _ from oI wr HF.out.rn (x:=⟨s,false,14,0,ks⟩) HQ.out.2 HF.out.kd wu.out (by have:=HG2.out.st;have:=HG2.out.vs;have:=HG2.out.mx;omega)
    subst hp3
    clear lN Ov
    go_wp2_with (refine aJ _ _ rfl b3 rfl HF.out.s3 hl rfl ?_)
    refine Calls.mono Ah.out ?_
    rintro e w8 ⟨rfl,CU,gU,rG,bD⟩
    have iT:=show Hid (DP w base rb c u sv kvs B (gJ (R',0,⟨s,false,14,0,ks⟩)) (.returned (.tuple #[.int .i64 (R'.st.length:Int),.int .i64 0])) w8) from⟨rfl,_,_,_,gU,HF.out.fin (fun k e=>(aT HF.out.kd k e).1) gU rG bD⟩
    clear gU rG bD HF Ah
    go_wp2_with fail
    go_ret2
    exact iT.out
theorem Ai {base rb c B n:Nat} {d:lK} (w:World) {u sv:Value} {kvs:List Value} {R:Rs} (hR:gN w base rb c u sv kvs B R) (hB:B<=4096) (hG:Gd R) (hvs:R.vs<=B) (hst:R.st.length<=R.vs) {s:SQ} (hq:eD R.t.length s) (hr:Ok s.1)
 (hK:R.vs≠B->zl base rb c B n d/\og B d/\Ko d/\Gs B n ⟨R.t,R.st,R.vs+1⟩) :
 Calls Tryz.prog 18 #[.pointer (some ⟨rb,0,none⟩),.agg (ak s.1 s.2)] w fun e w'=>DP w base rb c u sv kvs B (mh B R s (iU d ⟨R.t,R.st,R.vs+1⟩ s)) e w':=by
 have hl:=hr.1
 have HQ:=show Hid (eD R.t.length s/\Ok s.1) from⟨hq,hr⟩
 have HK:=show Hid (R.vs≠B->zl base rb c B n d/\og B d/\Ko d/\Gs B n ⟨R.t,R.st,R.vs+1⟩) from hK
 have wu:=show Hid (base<=w.heap.size) from hR.bs.2
 have hz0:d9 R.t s.1 s.2=0:=jE hr hq
 have KF:=show Hid (∀ W:World,gN W base rb c u sv kvs B R->Calls Tryz.prog 34 #[.pointer (some ⟨rb,0,none⟩),.agg (ak s.1 s.2)] W fun e w'=>e=.returned (.int .i64 (vT R.st s))/\Below W.heap.size W w') from fun W h=>Kk W h hr hG.one (by omega)
 have KA:=show Hid (∀ W:World,Tr W c u R.t->Calls Tryz.prog 35 #[.pointer (some ⟨c,0,none⟩),.agg (ak s.1 s.2)] W fun e w'=>e=.returned (.tuple #[.int .i64 (aL R.t s.1 s.2).1,.int .i64 (aL R.t s.1 s.2).2])/\Below W.heap.size W w') from fun W h1=>yG W h1 hr s.2 (jN.2 hq)
 have KP:=show Hid (∀ W:World,Tr W c u R.t->Calls Tryz.prog 37 #[.pointer (some ⟨c,0,none⟩),.agg (ak s.1 s.2),.int .i64 (aL R.t s.1 s.2).1,.int .i64 (aL R.t s.1 s.2).2] W fun e w'=>∃ sv,e=.returned (.tuple #[sv,.int .i64 (aH R.t s.1 s.2 (aL R.t s.1 s.2).1 (aL R.t s.1 s.2).2).2.2])/\eu sv (aH R.t s.1 s.2 (aL R.t s.1 s.2).1 (aL R.t s.1 s.2).2).1 w'/\aO W c u (aH R.t s.1 s.2 (aL R.t s.1 s.2).1 (aL R.t s.1 s.2).2).2.1 w') from fun W h1=>Ag W h1 hr s.2 _ _ hz0
 have tX:=show Hid ((aL R.t s.1 s.2).1≠14->(aH R.t s.1 s.2 (aL R.t s.1 s.2).1 (aL R.t s.1 s.2).2).2.2=0->Fm.Ok (aH R.t s.1 s.2 (aL R.t s.1 s.2).1 (aL R.t s.1 s.2).2).2.1/\Ext R.t (aH R.t s.1 s.2 (aL R.t s.1 s.2).1 (aL R.t s.1 s.2).2).2.1/\∀ p ∈ (aH R.t s.1 s.2 (aL R.t s.1 s.2).1 (aL R.t s.1 s.2).2).1,eD (aH R.t s.1 s.2 (aL R.t s.1 s.2).1 (aL R.t s.1 s.2).2).2.1.length p/\Ok p.1) from fun h1 h0=>by
  obtain⟨a1,a2,a3,_⟩:=mX hG.ok hr hq (tu hG.ok hr hz0 h1) h0
  exact⟨a1,a2,a3⟩
 have tK:=show Hid ((aH R.t s.1 s.2 (aL R.t s.1 s.2).1 (aL R.t s.1 s.2).2).1.length<=2) from(oW (t:=R.t) hr s.2 (aL R.t s.1 s.2).1 (aL R.t s.1 s.2).2).2
 have wO:=show Hid (iU d ⟨R.t,R.st,R.vs+1⟩ s=if (aL R.t s.1 s.2).1=14 then jk d s ⟨R.t,R.st,R.vs+1⟩ (dV R.t s.1 s.2) [] else if (aH R.t s.1 s.2 (aL R.t s.1 s.2).1 (aL R.t s.1 s.2).2).2.2≠0 then (⟨(aH R.t s.1 s.2 (aL R.t s.1 s.2).1 (aL R.t s.1 s.2).2).2.1,R.st,R.vs+1⟩,(aH R.t s.1 s.2 (aL R.t s.1 s.2).1 (aL R.t s.1 s.2).2).2.2,dX) else eO d ⟨(aH R.t s.1 s.2 (aL R.t s.1 s.2).1 (aL R.t s.1 s.2).2).2.1,R.st,R.vs+1⟩ ⟨s,false,(aL R.t s.1 s.2).1,(aL R.t s.1 s.2).2,[]⟩ (aH R.t s.1 s.2 (aL R.t s.1 s.2).1 (aL R.t s.1 s.2).2).1) from by
  unfold iU
  show(if d9 R.t s.1 s.2≠0 then _ else _)=_
  rw[hz0,if_neg (by simp)]
  exact rfl
 have TV:=show Hid (R.vs≠B->(aL R.t s.1 s.2).1=14->∀ W:World,gN W base rb c u sv kvs B ⟨R.t,R.st,R.vs+1⟩->Calls Tryz.prog 36 #[.pointer (some ⟨rb,0,none⟩),.agg (ak s.1 s.2)] W fun e w'=>DP W base rb c u sv kvs B (gJ (jk d s ⟨R.t,R.st,R.vs+1⟩ (dV R.t s.1 s.2) [])) e w') from fun h1 h2 W h=>Ns (hK h1).1 (hK h1).2.1 (hK h1).2.2.1 W h (hK h1).2.2.2 hq hr h2
 obtain⟨E,hE⟩:∃ E,E=iU d ⟨R.t,R.st,R.vs+1⟩ s:=⟨_,rfl⟩
 rw[<- hE] at wO |-
 have z8:=show Hid (mh B R s E=match look R.st s with | some p=>(R,0,p) | none=>if R.vs=B then (R,110,0) else gJ E) from rfl
 have wP:=show Hid (vT R.st s=match look R.st s with | some p=>(p:Int) | none => -1) from rfl
 generalize mh B R s E=X at *
 clear hE hK hG hq hz0
 generalize aH R.t s.1 s.2 (aL R.t s.1 s.2).1 (aL R.t s.1 s.2).2=pf at *
 generalize aL R.t s.1 s.2=ap at *
 generalize vT R.st s=li at *
 generalize look R.st s=lo at *
 go_enter Tryz.func18,Tryz.ntmps18
 go_wp2_with (refine aI 27 _ rfl _ rfl rfl ?_)
 intro w2 b3 hn2
 have H2:=show Hid (CD w w2 base rb c u sv kvs u sv kvs B R b3 s (.slice none 0 0) [] (.slice none 0 0) (.slice none 0 0) []) from⟨hR.later hn2.au,mJ.of_below hn2.au,hn2.blk,mY,fun k e=>(by cases e),⟨rfl,Or.inl ⟨rfl,rfl⟩⟩,⟨rfl,Or.inl ⟨rfl,rfl⟩⟩,fun k e=>(by cases e)⟩
 clear hn2 hR hr
 go_wp2_with (refine aJ _ _ rfl b3 rfl H2.out.s3 hl rfl ?_)
 refine Calls.mono (KF.out w2 H2.out.rn) ?_
 rintro e w3 ⟨rfl,hb3⟩
 have H3:=show Hid (CD w w3 base rb c u sv kvs u sv kvs B R b3 s (.slice none 0 0) [] (.slice none 0 0) (.slice none 0 0) []) from H2.out.later hb3
 clear hb3 H2 KF
 cases lo with
 | some p=>
  obtain rfl:li=(p:Int):=wP.out
  obtain rfl:X=(R,0,p):=z8.out
  have hnn:(0:Int)<=(p:Int):=by omega
  have iT:=show Hid (DP w base rb c u sv kvs B (R,0,p) (.returned (.tuple #[.int .i64 (p:Int),.int .i64 0])) w3) from⟨rfl,_,_,_,H3.out.rn,H3.out.af⟩
  clear wP z8 H3
  go_wp2_with fail
  go_ret2
  exact iT.out
 | none=>
  obtain rfl:li = -1:=wP.out
  have HX:=show Hid (X=if R.vs=B then (R,110,0) else gJ E) from z8.out
  clear wP z8
  go_wp2_with fail
  by_cases hvB:R.vs=B
  ·have hge:(B:Int)<=(R.vs:Int):=by omega
   obtain rfl:X=(R,110,0):=by rw[HX.out,if_pos hvB]
   clear HX
   refine dO (by kernel_rfl) 8 [some 21,some 22,some 23,some 24,some 25,some 26,some 27,some 28,some 29] [[],[0],[1],[2],[],[4],[5],[6],[3,7]] [[],[0],[1,0],[2,1,0],[],[4],[5,4],[6,5,4],[3,2,1,0,7,6,5,4]] (by kernel_rfl) (by decide) (fun ii vv w1=>match ii with | 0=>vv=.pointer (some ⟨rb,0,none⟩) | 1=>vv=.pointer (some ⟨rb,0,none⟩) | 2=>vv=.pointer (some ⟨rb,2,none⟩) | 3=>vv=.int .i64 (R.vs:Int) | 4=>vv=.pointer (some ⟨rb,0,none⟩) | 5=>vv=.pointer (some ⟨rb,0,none⟩) | 6=>vv=.pointer (some ⟨rb,3,none⟩) | 7=>vv=.int .i64 (B:Int) | 8=>vv=.bool true/\w1=w3.drew | _=>True) ?hfree (bR 9 ?steps) ?fin
   case hfree=>
    intro j v w1 w2 hj hn h
    match j,h,hj,hn with
    | 0,h,_,_=>exact h
    | 1,h,_,_=>exact h
    | 2,h,_,_=>exact h
    | 3,h,_,_=>exact h
    | 4,h,_,_=>exact h
    | 5,h,_,_=>exact h
    | 6,h,_,_=>exact h
    | 7,h,_,_=>exact h
    | 8,_,hj,_=>exact absurd rfl hj
    | _+9,_,_,_=>trivial
   case steps=>
    refine⟨⟨⟨⟨⟨⟨⟨⟨⟨trivial,?s0⟩,?s1⟩,?s2⟩,?s3⟩,?s4⟩,?s5⟩,?s6⟩,?s7⟩,?s8⟩
    case s0=>
     intro a w1 hw hO hN
     obtain rfl:w1=w3.drew:=hw (by decide)
     have o0:a.tmps[0]?=some (.pointer (some ⟨rb,0,none⟩)):=outs hO 0 rfl
     exact ah rfl (.pointer (some ⟨rb,0,none⟩)) _ rfl (by go_simp) ⟨_,rfl,rfl,fun _=>rfl⟩
    case s1=>
     intro a w1 hw hO hN
     obtain rfl:w1=w3.drew:=hw (by decide)
     obtain⟨v0,g0,r0⟩:=aj hN 0 21
     have e0:v0=.pointer (some ⟨rb,0,none⟩):=r0
     rw[e0] at g0
     exact ah rfl (.pointer (some ⟨rb,0,none⟩)) _ rfl (by go_simp) ⟨_,rfl,rfl,fun _=>rfl⟩
    case s2=>
     intro a w1 hw hO hN
     obtain rfl:w1=w3.drew:=hw (by decide)
     obtain⟨v1,g1,r1⟩:=aj hN 1 22
     have e1:v1=.pointer (some ⟨rb,0,none⟩):=r1
     rw[e1] at g1
     exact ah rfl (.pointer (some ⟨rb,2,none⟩)) _ rfl (by go_simp) ⟨_,rfl,rfl,fun _=>rfl⟩
    case s3=>
     intro a w1 hw hO hN
     obtain rfl:w1=w3.drew:=hw (by decide)
     obtain⟨v2,g2,r2⟩:=aj hN 2 23
     have e2:v2=.pointer (some ⟨rb,2,none⟩):=r2
     rw[e2] at g2
     have hc:w3.drew.cell? ⟨rb,2,none⟩=some (.int .i64 (R.vs:Int)):=H3.out.drew.rn.run.cell 2
     exact ah rfl (.int .i64 (R.vs:Int)) _ rfl (by go_simp) ⟨_,rfl,rfl,fun _=>rfl⟩
    case s4=>
     intro a w1 hw hO hN
     obtain rfl:w1=w3.drew:=hw (by decide)
     have o0:a.tmps[0]?=some (.pointer (some ⟨rb,0,none⟩)):=outs hO 0 rfl
     exact ah rfl (.pointer (some ⟨rb,0,none⟩)) _ rfl (by go_simp) ⟨_,rfl,rfl,fun _=>rfl⟩
    case s5=>
     intro a w1 hw hO hN
     obtain rfl:w1=w3.drew:=hw (by decide)
     obtain⟨v4,g4,r4⟩:=aj hN 4 25
     have e4:v4=.pointer (some ⟨rb,0,none⟩):=r4
     rw[e4] at g4
     exact ah rfl (.pointer (some ⟨rb,0,none⟩)) _ rfl (by go_simp) ⟨_,rfl,rfl,fun _=>rfl⟩
    case s6=>
     intro a w1 hw hO hN
     obtain rfl:w1=w3.drew:=hw (by decide)
     obtain⟨v5,g5,r5⟩:=aj hN 5 26
     have e5:v5=.pointer (some ⟨rb,0,none⟩):=r5
     rw[e5] at g5
     exact ah rfl (.pointer (some ⟨rb,3,none⟩)) _ rfl (by go_simp) ⟨_,rfl,rfl,fun _=>rfl⟩
    case s7=>
     intro a w1 hw hO hN
     obtain rfl:w1=w3.drew:=hw (by decide)
     obtain⟨v6,g6,r6⟩:=aj hN 6 27
     have e6:v6=.pointer (some ⟨rb,3,none⟩):=r6
     rw[e6] at g6
     have hc:w3.drew.cell? ⟨rb,3,none⟩=some (.int .i64 (B:Int)):=H3.out.drew.rn.run.cell 3
     exact ah rfl (.int .i64 (B:Int)) _ rfl (by go_simp) ⟨_,rfl,rfl,fun _=>rfl⟩
    case s8=>
     intro a w1 hw hO hN
     obtain rfl:w1=w3.drew:=hw (by decide)
     obtain⟨v3,g3,r3⟩:=aj hN 3 24
     have e3:v3=.int .i64 (R.vs:Int):=r3
     rw[e3] at g3
     obtain⟨v7,g7,r7⟩:=aj hN 7 28
     have e7:v7=.int .i64 (B:Int):=r7
     rw[e7] at g7
     exact ah rfl (.bool true) _ rfl (by first|(go_simp;done)|(go_simp;omega)) ⟨_,rfl,⟨rfl,rfl⟩,fun h=>absurd rfl h⟩
   case fin=>
    intro vs w1 hV
    obtain⟨e8,rfl⟩:vs 8=.bool true/\w1=w3.drew:=hV 8 (by decide)
    have H4:=show Hid _ from H3.out.drew
    clear H3 hV
    simp only[bg,Act.put,List.setIfInBounds_toArray,List.set_cons_zero,List.set_cons_succ,Nat.reduceAdd,Nat.zero_add,e8]
    clear e8
    have iT:=show Hid (DP w base rb c u sv kvs B (R,110,0) (.returned (.tuple #[.int .i64 0,.int .i64 110])) w3.drew) from⟨rfl,_,_,_,H4.out.rn,H4.out.af⟩
    clear H4
    go_wp2_with fail
    go_ret2
    exact iT.out
  ·have hge:¬ (B:Int)<=(R.vs:Int):=by omega
   have hgl:(R.vs:Int)<(B:Int):=by omega
   obtain rfl:X=gJ E:=by rw[HX.out,if_neg hvB]
   clear HX
   refine dO (by kernel_rfl) 8 [some 21,some 22,some 23,some 24,some 25,some 26,some 27,some 28,some 29] [[],[0],[1],[2],[],[4],[5],[6],[3,7]] [[],[0],[1,0],[2,1,0],[],[4],[5,4],[6,5,4],[3,2,1,0,7,6,5,4]] (by kernel_rfl) (by decide) (fun ii vv w1=>match ii with | 0=>vv=.pointer (some ⟨rb,0,none⟩) | 1=>vv=.pointer (some ⟨rb,0,none⟩) | 2=>vv=.pointer (some ⟨rb,2,none⟩) | 3=>vv=.int .i64 (R.vs:Int) | 4=>vv=.pointer (some ⟨rb,0,none⟩) | 5=>vv=.pointer (some ⟨rb,0,none⟩) | 6=>vv=.pointer (some ⟨rb,3,none⟩) | 7=>vv=.int .i64 (B:Int) | 8=>vv=.bool false/\w1=w3.drew | _=>True) ?hfree (bR 9 ?steps) ?fin
   case hfree=>
    intro j v w1 w2 hj hn h
    match j,h,hj,hn with
    | 0,h,_,_=>exact h
    | 1,h,_,_=>exact h
    | 2,h,_,_=>exact h
    | 3,h,_,_=>exact h
    | 4,h,_,_=>exact h
    | 5,h,_,_=>exact h
    | 6,h,_,_=>exact h
    | 7,h,_,_=>exact h
    | 8,_,hj,_=>exact absurd rfl hj
    | _+9,_,_,_=>trivial
   case steps=>
    refine⟨⟨⟨⟨⟨⟨⟨⟨⟨trivial,?s0⟩,?s1⟩,?s2⟩,?s3⟩,?s4⟩,?s5⟩,?s6⟩,?s7⟩,?s8⟩
    case s0=>
     intro a w1 hw hO hN
     obtain rfl:w1=w3.drew:=hw (by decide)
     have o0:a.tmps[0]?=some (.pointer (some ⟨rb,0,none⟩)):=outs hO 0 rfl
     exact ah rfl (.pointer (some ⟨rb,0,none⟩)) _ rfl (by go_simp) ⟨_,rfl,rfl,fun _=>rfl⟩
    case s1=>
     intro a w1 hw hO hN
     obtain rfl:w1=w3.drew:=hw (by decide)
     obtain⟨v0,g0,r0⟩:=aj hN 0 21
     have e0:v0=.pointer (some ⟨rb,0,none⟩):=r0
     rw[e0] at g0
     exact ah rfl (.pointer (some ⟨rb,0,none⟩)) _ rfl (by go_simp) ⟨_,rfl,rfl,fun _=>rfl⟩
    case s2=>
     intro a w1 hw hO hN
     obtain rfl:w1=w3.drew:=hw (by decide)
     obtain⟨v1,g1,r1⟩:=aj hN 1 22
     have e1:v1=.pointer (some ⟨rb,0,none⟩):=r1
     rw[e1] at g1
     exact ah rfl (.pointer (some ⟨rb,2,none⟩)) _ rfl (by go_simp) ⟨_,rfl,rfl,fun _=>rfl⟩
    case s3=>
     intro a w1 hw hO hN
     obtain rfl:w1=w3.drew:=hw (by decide)
     obtain⟨v2,g2,r2⟩:=aj hN 2 23
     have e2:v2=.pointer (some ⟨rb,2,none⟩):=r2
     rw[e2] at g2
     have hc:w3.drew.cell? ⟨rb,2,none⟩=some (.int .i64 (R.vs:Int)):=H3.out.drew.rn.run.cell 2
     exact ah rfl (.int .i64 (R.vs:Int)) _ rfl (by go_simp) ⟨_,rfl,rfl,fun _=>rfl⟩
    case s4=>
     intro a w1 hw hO hN
     obtain rfl:w1=w3.drew:=hw (by decide)
     have o0:a.tmps[0]?=some (.pointer (some ⟨rb,0,none⟩)):=outs hO 0 rfl
     exact ah rfl (.pointer (some ⟨rb,0,none⟩)) _ rfl (by go_simp) ⟨_,rfl,rfl,fun _=>rfl⟩
    case s5=>
     intro a w1 hw hO hN
     obtain rfl:w1=w3.drew:=hw (by decide)
     obtain⟨v4,g4,r4⟩:=aj hN 4 25
     have e4:v4=.pointer (some ⟨rb,0,none⟩):=r4
     rw[e4] at g4
     exact ah rfl (.pointer (some ⟨rb,0,none⟩)) _ rfl (by go_simp) ⟨_,rfl,rfl,fun _=>rfl⟩
    case s6=>
     intro a w1 hw hO hN
     obtain rfl:w1=w3.drew:=hw (by decide)
     obtain⟨v5,g5,r5⟩:=aj hN 5 26
     have e5:v5=.pointer (some ⟨rb,0,none⟩):=r5
     rw[e5] at g5
     exact ah rfl (.pointer (some ⟨rb,3,none⟩)) _ rfl (by go_simp) ⟨_,rfl,rfl,fun _=>rfl⟩
    case s7=>
     intro a w1 hw hO hN
     obtain rfl:w1=w3.drew:=hw (by decide)
     obtain⟨v6,g6,r6⟩:=aj hN 6 27
     have e6:v6=.pointer (some ⟨rb,3,none⟩):=r6
     rw[e6] at g6
     have hc:w3.drew.cell? ⟨rb,3,none⟩=some (.int .i64 (B:Int)):=H3.out.drew.rn.run.cell 3
     exact ah rfl (.int .i64 (B:Int)) _ rfl (by go_simp) ⟨_,rfl,rfl,fun _=>rfl⟩
    case s8=>
     intro a w1 hw hO hN
     obtain rfl:w1=w3.drew:=hw (by decide)
     obtain⟨v3,g3,r3⟩:=aj hN 3 24
     have e3:v3=.int .i64 (R.vs:Int):=r3
     rw[e3] at g3
     obtain⟨v7,g7,r7⟩:=aj hN 7 28
     have e7:v7=.int .i64 (B:Int):=r7
     rw[e7] at g7
     exact ah rfl (.bool false) _ rfl (by first|(go_simp;done)|(go_simp;omega)) ⟨_,rfl,⟨rfl,rfl⟩,fun h=>absurd rfl h⟩
   case fin=>
    intro vs w1 hV
    obtain⟨e8,rfl⟩:vs 8=.bool false/\w1=w3.drew:=hV 8 (by decide)
    have H4:=show Hid _ from H3.out.drew
    clear H3 hV
    simp only[bg,Act.put,List.setIfInBounds_toArray,List.set_cons_zero,List.set_cons_succ,Nat.reduceAdd,Nat.zero_add,e8]
    clear e8
    obtain⟨hD,hd,hlk,CY⟩:=HK.out hvB
    have HD:=show Hid (zl base rb c B n d) from hD
    have pQ:=show Hid (og B d) from hd
    have mH:=show Hid (Gs B n ⟨R.t,R.st,R.vs+1⟩) from CY
    have Nw:=show Hid _ from TV.out hvB
    clear hD hd hlk CY HK
    obtain⟨w4,hw4⟩:∃ w4,w4=w3.drew:=⟨_,rfl⟩
    rw[<- hw4] at H4 |-
    clear hw4
    have c2:w4.cell? ⟨rb,2,none⟩=some (.int .i64 (R.vs:Int)):=H4.out.rn.run.cell 2
    have hvl:R.vs<4096:=by omega
    go_wp2_with (refine Ia rfl rfl _ _ rfl rb rfl (R.vs+1) (by go_num) H4.out.rn.run ?_)
    intro w5 mF hk5
    obtain⟨jT,iV⟩:=H4.out.rn.visit mF hk5
    have H5:=show Hid (CD w w5 base rb c u sv kvs u sv kvs B ⟨R.t,R.st,R.vs+1⟩ b3 s (.slice none 0 0) [] (.slice none 0 0) (.slice none 0 0) []) from H4.out.call jT iV
    clear jT iV mF hk5 c2 H4
    obtain⟨w4,U7⟩:∃ w4,w4=w5:=⟨_,rfl⟩
    subst U7
    go_wp2_with fail
    refine dO (by kernel_rfl) 5 [some 38,some 39,some 40,some 41,some 42,some 43,some 37,some 44,some 45,some 7,some 8] [[],[0],[1],[2],[],[3,4],[5],[6],[6],[7],[8]] [[],[0],[1,0],[2,1,0],[],[3,2,1,0,4],[5,3,2,1,0,4],[6,5,3,2,1,0,4],[6,5,3,2,1,0,4],[7,6,5,3,2,1,0,4],[8,6,5,3,2,1,0,4]] (by kernel_rfl) (by decide) (fun ii vv w1=>match ii with | 0=>vv=.pointer (some ⟨rb,0,none⟩) | 1=>vv=.pointer (some ⟨rb,0,none⟩) | 2=>vv=.pointer (some ⟨rb,0,none⟩) | 3=>vv=.pointer (some ⟨c,0,none⟩) | 4=>vv=.agg (ak s.1 s.2) | 5=>vv=.tuple #[.int .i64 ap.1,.int .i64 ap.2]/\Below w4.drew.heap.size w4.drew w1 | 6=>vv=.tuple #[.int .i64 ap.1,.int .i64 ap.2] | 7=>vv=.int .i64 ap.1 | 8=>vv=.int .i64 ap.2 | 9=>vv=.int .i64 ap.1 | 10=>vv=.int .i64 ap.2 | _=>True) ?hfree (bR 11 ?steps) ?fin
    case hfree=>
     intro j v w1 w2 hj hn h
     match j,h,hj,hn with
     | 0,h,_,_=>exact h
     | 1,h,_,_=>exact h
     | 2,h,_,_=>exact h
     | 3,h,_,_=>exact h
     | 4,h,_,_=>exact h
     | 5,_,hj,_=>exact absurd rfl hj
     | 6,_,_,hn=>exact absurd (by decide) hn
     | 7,_,_,hn=>exact absurd (by decide) hn
     | 8,_,_,hn=>exact absurd (by decide) hn
     | 9,_,_,hn=>exact absurd (by decide) hn
     | 10,_,_,hn=>exact absurd (by decide) hn
     | _+11,_,_,_=>trivial
    case steps=>
     refine⟨⟨⟨⟨⟨⟨⟨⟨⟨⟨⟨trivial,?s0⟩,?s1⟩,?s2⟩,?s3⟩,?s4⟩,?s5⟩,?s6⟩,?s7⟩,?s8⟩,?s9⟩,?s10⟩
     case s0=>
      intro a w1 hw hO hN
      obtain rfl:w1=w4.drew:=hw (by decide)
      have o0:a.tmps[0]?=some (.pointer (some ⟨rb,0,none⟩)):=outs hO 0 rfl
      exact ah rfl (.pointer (some ⟨rb,0,none⟩)) _ rfl (by go_simp) ⟨_,rfl,rfl,fun _=>rfl⟩
     case s1=>
      intro a w1 hw hO hN
      obtain rfl:w1=w4.drew:=hw (by decide)
      obtain⟨v0,g0,r0⟩:=aj hN 0 38
      have e0:v0=.pointer (some ⟨rb,0,none⟩):=r0
      rw[e0] at g0
      exact ah rfl (.pointer (some ⟨rb,0,none⟩)) _ rfl (by go_simp) ⟨_,rfl,rfl,fun _=>rfl⟩
     case s2=>
      intro a w1 hw hO hN
      obtain rfl:w1=w4.drew:=hw (by decide)
      obtain⟨v1,g1,r1⟩:=aj hN 1 39
      have e1:v1=.pointer (some ⟨rb,0,none⟩):=r1
      rw[e1] at g1
      exact ah rfl (.pointer (some ⟨rb,0,none⟩)) _ rfl (by go_simp) ⟨_,rfl,rfl,fun _=>rfl⟩
     case s3=>
      intro a w1 hw hO hN
      obtain rfl:w1=w4.drew:=hw (by decide)
      obtain⟨v2,g2,r2⟩:=aj hN 2 40
      have e2:v2=.pointer (some ⟨rb,0,none⟩):=r2
      rw[e2] at g2
      have hc:w4.drew.cell? ⟨rb,0,none⟩=some (.pointer (some ⟨c,0,none⟩)):=H5.out.drew.rn.run.cell 0
      exact ah rfl (.pointer (some ⟨c,0,none⟩)) _ rfl (by go_simp) ⟨_,rfl,rfl,fun _=>rfl⟩
     case s4=>
      intro a w1 hw hO hN
      obtain rfl:w1=w4.drew:=hw (by decide)
      have o3:a.tmps[3]?=some (.pointer (some ⟨b3,0,none⟩)):=outs hO 3 rfl
      have hl:=eZ w4.drew b3 H5.out.drew.s3 hl
      exact ah rfl (.agg (ak s.1 s.2)) _ rfl (by simp[execOp,Act.eval,o3,hl,Result.andThen]) ⟨_,rfl,rfl,fun _=>rfl⟩
     case s5=>
      intro a w1 hw hO hN
      obtain rfl:w1=w4.drew:=hw (by decide)
      obtain⟨v3,g3,r3⟩:=aj hN 3 41
      have e3:v3=.pointer (some ⟨c,0,none⟩):=r3
      rw[e3] at g3
      obtain⟨v4,g4,r4⟩:=aj hN 4 42
      have e4:v4=.agg (ak s.1 s.2):=r4
      rw[e4] at g4
      refine aR rfl rfl 35 [.tmp 41,.tmp 42] #[29,27] rfl [.pointer (some ⟨c,0,none⟩),.agg (ak s.1 s.2)] (by simp[Act.eval,g3,g4]) (enters_of Tryz.func35 (by kernel_rfl) rfl) (Calls.mono (KA.out w4.drew H5.out.drew.rn.tr) ?_)
      rintro e w3 ⟨rfl,hb⟩
      exact⟨_,rfl,_,rfl,⟨rfl,hb⟩,fun h=>absurd rfl h⟩
     case s6=>
      intro a w1 hw hO hN
      obtain⟨v5,g5,r5⟩:=aj hN 5 43
      obtain⟨rfl,_⟩:=r5
      exact ah rfl (.tuple #[.int .i64 ap.1,.int .i64 ap.2]) _ rfl (by go_simp) ⟨_,rfl,rfl,fun _=>rfl⟩
     case s7=>
      intro a w1 hw hO hN
      obtain⟨v6,g6,r6⟩:=aj hN 6 37
      have e6:v6=.tuple #[.int .i64 ap.1,.int .i64 ap.2]:=r6
      rw[e6] at g6
      exact ah rfl (.int .i64 ap.1) _ rfl (by go_simp) ⟨_,rfl,rfl,fun _=>rfl⟩
     case s8=>
      intro a w1 hw hO hN
      obtain⟨v6,g6,r6⟩:=aj hN 6 37
      have e6:v6=.tuple #[.int .i64 ap.1,.int .i64 ap.2]:=r6
      rw[e6] at g6
      exact ah rfl (.int .i64 ap.2) _ rfl (by go_simp) ⟨_,rfl,rfl,fun _=>rfl⟩
     case s9=>
      intro a w1 hw hO hN
      obtain⟨v7,g7,r7⟩:=aj hN 7 44
      have e7:v7=.int .i64 ap.1:=r7
      rw[e7] at g7
      exact ah rfl (.int .i64 ap.1) _ rfl (by go_simp) ⟨_,rfl,rfl,fun _=>rfl⟩
     case s10=>
      intro a w1 hw hO hN
      obtain⟨v8,g8,r8⟩:=aj hN 8 45
      have e8:v8=.int .i64 ap.2:=r8
      rw[e8] at g8
      exact ah rfl (.int .i64 ap.2) _ rfl (by go_simp) ⟨_,rfl,rfl,fun _=>rfl⟩
    case fin=>
     intro vs w1 hV
     have e9:vs 9=.int .i64 ap.1:=hV 9 (by decide)
     have e10:vs 10=.int .i64 ap.2:=hV 10 (by decide)
     have hb5:Below w4.drew.heap.size w4.drew w1:=by
      have h5:vs 5=.tuple #[.int .i64 ap.1,.int .i64 ap.2]/\Below w4.drew.heap.size w4.drew w1:=hV 5 (by decide)
      exact h5.2
     have H6:=show Hid (CD w w1 base rb c u sv kvs u sv kvs B ⟨R.t,R.st,R.vs+1⟩ b3 s (.slice none 0 0) [] (.slice none 0 0) (.slice none 0 0) []) from H5.out.drew.later hb5
     clear hb5 H5 hV
     simp only[bg,Act.put,List.setIfInBounds_toArray,List.set_cons_zero,List.set_cons_succ,Nat.reduceAdd,Nat.zero_add,e9,e10]
     clear e9 e10
     obtain⟨w5,UK⟩:∃ w5,w5=w1:=⟨_,rfl⟩
     subst UK
     by_cases fD:ap.1=14
     ·have WE:(ap.1 == 14)=true:=by rw[fD];rfl
      have KC:=show Hid _ from Nw.out fD w5 H6.out.rn
      have hE:E=jk d s ⟨R.t,R.st,R.vs+1⟩ (dV R.t s.1 s.2) []:=by rw[wO.out,if_pos fD]
      rw[<- hE] at KC
      clear wO tX tK TV Nw KP KA hE
      go_wp2_with (refine aJ _ _ rfl b3 rfl H6.out.s3 hl rfl ?_)
      refine Calls.mono KC.out ?_
      rintro e w7 ⟨rfl,u7,Oj,ZF,zJ,Vz⟩
      have iT:=show Hid (DP w base rb c u sv kvs B (gJ E) (.returned (.tuple #[.int .i64 ((gJ E).2.2:Int),.int .i64 (gJ E).2.1])) w7) from⟨rfl,_,_,_,zJ,H6.out.af.trans Vz⟩
      clear zJ Vz H6 KC
      go_wp2_with fail
      go_ret2
      exact iT.out
     ·have WE:(ap.1 == 14)=false:=by rw[beq_eq_false_iff_ne];exact fD
      have hp3:E=if pf.2.2≠0 then (⟨pf.2.1,R.st,R.vs+1⟩,pf.2.2,dX) else eO d ⟨pf.2.1,R.st,R.vs+1⟩ ⟨s,false,ap.1,ap.2,[]⟩ pf.1:=by rw[wO.out,if_neg fD]
      have fE:=show Hid _ from hp3
      clear wO hp3
      go_wp2_with fail
      refine dO (by kernel_rfl) 7 [some 54,some 55,some 56,some 57,some 58,some 59,some 60,some 61,some 53,some 62,some 63,some 9,some 10] [[],[0],[1],[2],[],[],[],[3,4,5,6],[7],[8],[8],[9],[10]] [[],[0],[1,0],[2,1,0],[],[],[],[3,2,1,0,4,5,6],[7,3,2,1,0,4,5,6],[8,7,3,2,1,0,4,5,6],[8,7,3,2,1,0,4,5,6],[9,8,7,3,2,1,0,4,5,6],[10,8,7,3,2,1,0,4,5,6]] (by kernel_rfl) (by decide) (fun ii vv w1=>match ii with | 0=>vv=.pointer (some ⟨rb,0,none⟩) | 1=>vv=.pointer (some ⟨rb,0,none⟩) | 2=>vv=.pointer (some ⟨rb,0,none⟩) | 3=>vv=.pointer (some ⟨c,0,none⟩) | 4=>vv=.agg (ak s.1 s.2) | 5=>vv=.int .i64 ap.1 | 6=>vv=.int .i64 ap.2 | 7=>∃ sq,vv=.tuple #[sq,.int .i64 pf.2.2]/\eu sq pf.1 w1/\aO w5.drew c u pf.2.1 w1 | 8=>∃ sq,vv=.tuple #[sq,.int .i64 pf.2.2]/\eu sq pf.1 w1/\aO w5.drew c u pf.2.1 w1 | 9=>eu vv pf.1 w1/\aO w5.drew c u pf.2.1 w1 | 10=>vv=.int .i64 pf.2.2 | 11=>eu vv pf.1 w1/\aO w5.drew c u pf.2.1 w1 | 12=>vv=.int .i64 pf.2.2 | _=>True) ?hfree (bR 13 ?steps) ?fin
      case hfree=>
       intro j v w1 w2 hj hn h
       match j,h,hj,hn with
       | 0,h,_,_=>exact h
       | 1,h,_,_=>exact h
       | 2,h,_,_=>exact h
       | 3,h,_,_=>exact h
       | 4,h,_,_=>exact h
       | 5,h,_,_=>exact h
       | 6,h,_,_=>exact h
       | 7,_,hj,_=>exact absurd rfl hj
       | 8,_,_,hn=>exact absurd (by decide) hn
       | 9,_,_,hn=>exact absurd (by decide) hn
       | 10,_,_,hn=>exact absurd (by decide) hn
       | 11,_,_,hn=>exact absurd (by decide) hn
       | 12,_,_,hn=>exact absurd (by decide) hn
       | _+13,_,_,_=>trivial
      case steps=>
       refine⟨⟨⟨⟨⟨⟨⟨⟨⟨⟨⟨⟨⟨trivial,?s0⟩,?s1⟩,?s2⟩,?s3⟩,?s4⟩,?s5⟩,?s6⟩,?s7⟩,?s8⟩,?s9⟩,?s10⟩,?s11⟩,?s12⟩
       case s0=>
        intro a w1 hw hO hN
        obtain rfl:w1=w5.drew:=hw (by decide)
        have o0:a.tmps[0]?=some (.pointer (some ⟨rb,0,none⟩)):=outs hO 0 rfl
        exact ah rfl (.pointer (some ⟨rb,0,none⟩)) _ rfl (by go_simp) ⟨_,rfl,rfl,fun _=>rfl⟩
       case s1=>
        intro a w1 hw hO hN
        obtain rfl:w1=w5.drew:=hw (by decide)
        obtain⟨v0,g0,r0⟩:=aj hN 0 54
        have e0:v0=.pointer (some ⟨rb,0,none⟩):=r0
        rw[e0] at g0
        exact ah rfl (.pointer (some ⟨rb,0,none⟩)) _ rfl (by go_simp) ⟨_,rfl,rfl,fun _=>rfl⟩
       case s2=>
        intro a w1 hw hO hN
        obtain rfl:w1=w5.drew:=hw (by decide)
        obtain⟨v1,g1,r1⟩:=aj hN 1 55
        have e1:v1=.pointer (some ⟨rb,0,none⟩):=r1
        rw[e1] at g1
        exact ah rfl (.pointer (some ⟨rb,0,none⟩)) _ rfl (by go_simp) ⟨_,rfl,rfl,fun _=>rfl⟩
       case s3=>
        intro a w1 hw hO hN
        obtain rfl:w1=w5.drew:=hw (by decide)
        obtain⟨v2,g2,r2⟩:=aj hN 2 56
        have e2:v2=.pointer (some ⟨rb,0,none⟩):=r2
        rw[e2] at g2
        have hc:w5.drew.cell? ⟨rb,0,none⟩=some (.pointer (some ⟨c,0,none⟩)):=H6.out.drew.rn.run.cell 0
        exact ah rfl (.pointer (some ⟨c,0,none⟩)) _ rfl (by go_simp) ⟨_,rfl,rfl,fun _=>rfl⟩
       case s4=>
        intro a w1 hw hO hN
        obtain rfl:w1=w5.drew:=hw (by decide)
        have o3:a.tmps[3]?=some (.pointer (some ⟨b3,0,none⟩)):=outs hO 3 rfl
        have hl:=eZ w5.drew b3 H6.out.drew.s3 hl
        exact ah rfl (.agg (ak s.1 s.2)) _ rfl (by simp[execOp,Act.eval,o3,hl,Result.andThen]) ⟨_,rfl,rfl,fun _=>rfl⟩
       case s5=>
        intro a w1 hw hO hN
        obtain rfl:w1=w5.drew:=hw (by decide)
        have o7:a.tmps[7]?=some (.int .i64 ap.1):=outs hO 7 rfl
        exact ah rfl (.int .i64 ap.1) _ rfl (by go_simp) ⟨_,rfl,rfl,fun _=>rfl⟩
       case s6=>
        intro a w1 hw hO hN
        obtain rfl:w1=w5.drew:=hw (by decide)
        have o8:a.tmps[8]?=some (.int .i64 ap.2):=outs hO 8 rfl
        exact ah rfl (.int .i64 ap.2) _ rfl (by go_simp) ⟨_,rfl,rfl,fun _=>rfl⟩
       case s7=>
        intro a w1 hw hO hN
        obtain rfl:w1=w5.drew:=hw (by decide)
        obtain⟨v3,g3,r3⟩:=aj hN 3 57
        have e3:v3=.pointer (some ⟨c,0,none⟩):=r3
        rw[e3] at g3
        obtain⟨v4,g4,r4⟩:=aj hN 4 58
        have e4:v4=.agg (ak s.1 s.2):=r4
        rw[e4] at g4
        obtain⟨v5,g5,r5⟩:=aj hN 5 59
        have e5:v5=.int .i64 ap.1:=r5
        rw[e5] at g5
        obtain⟨v6,g6,r6⟩:=aj hN 6 60
        have e6:v6=.int .i64 ap.2:=r6
        rw[e6] at g6
        refine aR rfl rfl 37 [.tmp 57,.tmp 58,.tmp 59,.tmp 60] #[29,27,43,3] rfl [.pointer (some ⟨c,0,none⟩),.agg (ak s.1 s.2),.int .i64 ap.1,.int .i64 ap.2] (by simp[Act.eval,g3,g4,g5,g6]) (enters_of Tryz.func37 (by kernel_rfl) rfl) (Calls.mono (KP.out w5.drew H6.out.drew.rn.tr) ?_)
        rintro e w3 ⟨sq,rfl,hs,ha⟩
        exact⟨_,rfl,_,rfl,⟨sq,rfl,hs,ha⟩,fun h=>absurd rfl h⟩
       case s8=>
        intro a w1 hw hO hN
        obtain⟨v7,g7,r7⟩:=aj hN 7 61
        obtain⟨sq,rfl,hs,ha⟩:=r7
        exact ah rfl (.tuple #[sq,.int .i64 pf.2.2]) _ rfl (by go_simp) ⟨_,rfl,⟨sq,rfl,hs,ha⟩,fun _=>rfl⟩
       case s9=>
        intro a w1 hw hO hN
        obtain⟨v8,g8,r8⟩:=aj hN 8 53
        obtain⟨sq,rfl,hs,ha⟩:=r8
        exact ah rfl sq _ rfl (by go_simp) ⟨_,rfl,⟨hs,ha⟩,fun _=>rfl⟩
       case s10=>
        intro a w1 hw hO hN
        obtain⟨v8,g8,r8⟩:=aj hN 8 53
        obtain⟨sq,rfl,hs,ha⟩:=r8
        exact ah rfl (.int .i64 pf.2.2) _ rfl (by go_simp) ⟨_,rfl,rfl,fun _=>rfl⟩
       case s11=>
        intro a w1 hw hO hN
        obtain⟨v9,g9,r9⟩:=aj hN 9 62
        exact ah rfl v9 _ rfl (by go_simp) ⟨_,rfl,r9,fun _=>rfl⟩
       case s12=>
        intro a w1 hw hO hN
        obtain⟨v10,g10,bM⟩:=aj hN 10 63
        have e10:v10=.int .i64 pf.2.2:=bM
        rw[e10] at g10
        exact ah rfl (.int .i64 pf.2.2) _ rfl (by go_simp) ⟨_,rfl,rfl,fun _=>rfl⟩
      case fin=>
       intro vs w1 hV
       have e12:vs 12=.int .i64 pf.2.2:=hV 12 (by decide)
       obtain⟨vw,vB⟩:eu (vs 11) pf.1 w1/\aO w5.drew c u pf.2.1 w1:=hV 11 (by decide)
       obtain⟨u4,vo⟩:=H6.out.drew.table vB
       have H7:=show Hid (CD w w1 base rb c u sv kvs u4 sv kvs B ⟨pf.2.1,R.st,R.vs+1⟩ b3 s (.slice none 0 0) [] (.slice none 0 0) (.slice none 0 0) []/\eu (vs 11) pf.1 w1) from⟨vo,vw⟩
       clear vo vw vB hV H6 KP KA TV Nw
       simp only[bg,Act.put,List.setIfInBounds_toArray,List.set_cons_zero,List.set_cons_succ,Nat.reduceAdd,Nat.zero_add,e12]
       clear e12
       generalize vs 11=sq at *
       by_cases hpe:pf.2.2=0
       ·have hpb:(pf.2.2 != 0)=false:=by rw[hpe];rfl
        obtain⟨gH,hE1,hrg⟩:=tX.out fD hpe
        rw[if_neg (by rw[hpe];simp)] at fE
        have nJ:=show Hid (Gs B n ⟨pf.2.1,R.st,R.vs+1⟩) from⟨mH.out.gd.grow gH hE1,mH.out.vs,mH.out.st,mH.out.fu,mH.out.mx⟩
        have yA:=show Hid (∀ p ∈ pf.1,eD pf.2.1.length p/\Ok p.1) from hrg
        have HL:=show Hid (∀ s ∈ pf.1,s.1.length=16) from fun s hs=>(hrg s hs).2.1
        obtain⟨sp,sc,rfl⟩:=H7.out.2.form
        clear gH hE1 hrg tX mH
        have hp2:=tK.out
        rw[hpe]
        clear hpe hpb
        go_wp2_with fail
        go_loopw [11,12] (fun TQ iv wr=>∃ (i:Nat) (R':Rs) (ks:List Nat) (u' aW:Value) (bn:List Value),i<=pf.1.length/\iv=.int .i64 (i:Int)/\Hid (E=eO d R' ⟨s,false,ap.1,ap.2,ks⟩ (pf.1.drop i))/\Hid (CD w wr base rb c u sv kvs u' aW bn B R' b3 s TQ ks (.slice none 0 0) (.slice none 0 0) []/\eu (.slice sp pf.1.length sc) pf.1 wr)/\Hid (Gs B n R')/\Hid (Ext pf.2.1 R'.t)/\Hid (ks.length=i)) (fun _ iv _=>pf.1.length - (intOf iv).toNat)
        case atStart=>exact⟨0,_,[],_,_,_,by omega,rfl,fE,H7,nJ,Ext.refl _,show([]:List Nat).length=0 from rfl⟩
        case round=>
         obtain⟨i,R',ks,u',aW,bn,hi,rfl,lN,HF,HG2,HE,CJ⟩:=hrel
         clear fE H7 nJ
         obtain⟨kv,Nt⟩:∃ kv,kv=u11:=⟨_,rfl⟩
         subst Nt
         by_cases hlt:i<pf.1.length
         ·have hil:(i:Int)<(pf.1.length:Int):=by omega
          obtain⟨q,rfl,hin⟩:=HF.out.2.at HL.out hlt
          have ku:=yA.out _ (List.getElem_mem hlt)
          have rR:=ku.2.1
          have rC:=show Hid _ from hin
          have sF:=show Hid (eD R'.t.length pf.1[i]/\Ok pf.1[i].1) from⟨jr HE.out ku.1,ku.2⟩
          have hp3:E=eO d R' ⟨s,false,ap.1,ap.2,ks⟩ (pf.1[i] :: pf.1.drop (i+1)):=by rw[lN.out,List.drop_eq_getElem_cons hlt]
          have hfo:eO d R' ⟨s,false,ap.1,ap.2,ks⟩ (pf.1[i] :: pf.1.drop (i+1))=if (d R' pf.1[i]).2.1≠0 then ((d R' pf.1[i]).1,(d R' pf.1[i]).2.1,dX) else if ((d R' pf.1[i]).1.st.getD (d R' pf.1[i]).2.2 dX).pv=false then ((d R' pf.1[i]).1,0,⟨s,false,ap.1,ap.2,[(d R' pf.1[i]).2.2]⟩) else eO d (d R' pf.1[i]).1 ⟨s,false,ap.1,ap.2,ks ++ [(d R' pf.1[i]).2.2]⟩ (pf.1.drop (i+1)):=rfl
          rw[hfo] at hp3
          have pR:=show Hid _ from hp3
          clear hin ku lN hp3 hfo
          generalize pf.1[i]=p at *
          have KD:=show Hid _ from HD.out wr u' aW bn R' p HF.out.1.rn HG2.out.gd HG2.out.vs HG2.out.st HG2.out.fu sF.out.1 sF.out.2
          have HS:=show Hid (qK B R' p (d R' p)/\Gs B n (d R' p).1) from⟨pQ.out R' p HG2.out.gd HG2.out.vs sF.out.1 sF.out.2,HG2.out.dec pQ.out sF.out.1 sF.out.2⟩
          generalize d R' p=qd at *
          go_wp2_with (refine kL _ rfl _ rfl q _ rfl rC.out rR ?_)
          refine Calls.mono KD.out ?_
          rintro e wz ⟨rfl,u5,wL,kM,jT,iV⟩
          have H8:=show Hid (CD w wz base rb c u sv kvs u5 wL kM B qd.1 b3 s kv ks (.slice none 0 0) (.slice none 0 0) []/\eu (.slice (some ⟨q,0,none⟩) pf.1.length sc) pf.1 wz) from⟨HF.out.1.call jT iV,HF.out.2.Vx HF.out.1.rn iV⟩
          clear jT iV HF KD rC
          by_cases he:qd.2.1=0
          ·have sG:(qd.2.1 != 0)=false:=by rw[he];rfl
           obtain⟨y,hy,_,_⟩:=HS.out.1.at he
           obtain⟨gs,yD,rfl,hpc⟩:=H8.out.1.rn.dG.pv hy
           have MQ:=(List.getElem?_eq_some_iff.1 hy).1
           have c1:wz.cell? ⟨rb,1,none⟩=some (.slice (some ⟨gs,0,none⟩) qd.1.st.length yD):=H8.out.1.rn.run.cell 1
           have GJ:(qd.2.2:Int)<(qd.1.st.length:Int):=by omega
           have Nu:qd.1.st.length<=100000:=by have:=HS.out.2.st;have:=HS.out.2.vs;have:=HS.out.2.mx;omega
           rw[if_neg (by rw[he];simp),getD_some hy dX] at pR
           cases hpv:y.pv with
           | false=>
            rw[hpv] at hpc pR
            rw[if_pos rfl] at pR
            clear hpv
            obtain rfl:=pR.out
            go_wp2_with (first|(refine aJ _ _ rfl b3 rfl H8.out.1.s3 hl rfl ?_)|(refine l6 rfl _ rfl _ rfl ?_))
            intro w6 q6 fQ
            have WG:=fQ.ge
            have WH:=H8.out.1.af.kp.size
            have H9:=show Hid _ from H8.out.1.later fQ.au
            have EZ:=show Hid (w6.ownsRow w.heap.size 3 1 (.slice (some ⟨q6,0,none⟩) 1 1) [qd.2.2].length (fJ [qd.2.2])) from CG fQ (by omega)
            have Ah:=show Hid _ from oI w6 H9.out.rn (x:=⟨s,false,ap.1,ap.2,[qd.2.2]⟩) HQ.out.2 EZ.out wu.out Nu
            clear fQ WG WH H8 c1 hpc pR
            go_wp2_with fail
            refine Calls.mono Ah.out ?_
            rintro e w8 ⟨rfl,CU,gU,rG,bD⟩
            have iT:=show Hid (DP w base rb c u sv kvs B (gJ (qd.1,0,⟨s,false,ap.1,ap.2,[qd.2.2]⟩)) (.returned (.tuple #[.int .i64 (qd.1.st.length:Int),.int .i64 0])) w8) from⟨rfl,_,_,_,gU,H9.out.fin (fun k e=>(aT EZ.out k e).1) gU rG bD⟩
            clear gU rG bD H9 Ah EZ
            go_wp2_with fail
            go_ret2
            exact iT.out
           | true=>
            rw[hpv] at hpc pR
            rw[if_neg (by simp)] at pR
            clear hpv
            go_wp2_with (refine l6 rfl _ rfl _ rfl ?_)
            intro w6 q6 fQ
            have H9:=show Hid (_/\_) from⟨H8.out.1.later fQ.au,H8.out.2.later fQ.au⟩
            have hcq:w6.cell? ⟨q6,0,none⟩=some (.int .i64 (qd.2.2:Int)):=Cl.cell fQ.blk 0
            obtain⟨i0,hi0,hz0,hz1,hz2⟩:=info_parts yx
            have qN:=CJ.out
            have hsz:=H9.out.1.af.kp.size
            clear fQ H8 c1 hpc
            go_wp2_with (at_builtin;refine wpList_append_own_at _ rfl (.tmp 103) (.tmp 105) 44 rfl w.heap.size 3 i0 (.int .i64 0) 1 8 Tryz.underlying44 hi0 hz0 hz1 hz2 rfl (by decide) kv ks.length (fJ ks) rfl H9.out.1.kd ⟨q6,0,none⟩ 1 1 [.int .i64 (qd.2.2:Int)] rfl rfl (oG hcq) (by intro u hu;simp at hu;subst hu;rfl) (by unfold maxLen;omega) (by omega) hsz ?_)
            intro uZ w7 kC rD _ mZ
            have hln:ks.length+1=(ks ++ [qd.2.2]).length:=by simp
            have HH:=show Hid (_/\_) from⟨H9.out.1.app rD (ks':=ks ++ [qd.2.2]) (by rw[tJ,<- hln,qN];exact kC) mZ,H9.out.2.app H9.out.1.kd rD⟩
            have CO:=show Hid (Ext pf.2.1 qd.1.t) from HE.out.trans HS.out.1.ext
            have CP:=show Hid (Gs B n qd.1) from HS.out.2
            clear kC rD mZ hcq hi0 hz0 hz1 hz2 hln H9 HS
            go_wp2_with fail
            go_roundw
            case rel=>exact⟨i+1,_,_,_,_,_,by omega,by go_num,pR,HH,CP,CO,show(ks ++ [qd.2.2]).length=i+1 from by rw[List.length_append,qN];rfl⟩
            case measure=>first|(simp[intOf];done)|(simp[intOf];omega)
          ·have sG:(qd.2.1 != 0)=true:=by simpa using he
           rw[if_pos he] at pR
           have hp3:gJ E=(qd.1,qd.2.1,0):=by rw[pR.out];unfold gJ;rw[if_pos he]
           have iT:=show Hid (DP w base rb c u sv kvs B (gJ E) (.returned (.tuple #[.int .i64 0,.int .i64 qd.2.1])) wz) from(by rw[hp3];exact⟨rfl,_,_,_,H8.out.1.rn,H8.out.1.af⟩)
           clear pR H8 hp3
           go_wp2_with fail
           go_ret2
           exact iT.out
         ·have hil:¬ (i:Int)<(pf.1.length:Int):=by omega
          have hp3:E=(R',0,⟨s,true,ap.1,ap.2,ks⟩):=by rw[lN.out,List.drop_of_length_le (by omega)];rfl
          have Ah:=show Hid _ from oI wr HF.out.1.rn (x:=⟨s,true,ap.1,ap.2,ks⟩) HQ.out.2 HF.out.1.kd wu.out (by have:=HG2.out.st;have:=HG2.out.vs;have:=HG2.out.mx;omega)
          subst hp3
          clear lN
          go_wp2_with (refine aJ _ _ rfl b3 rfl HF.out.1.s3 hl rfl ?_)
          refine Calls.mono Ah.out ?_
          rintro e w8 ⟨rfl,CU,gU,rG,bD⟩
          have iT:=show Hid (DP w base rb c u sv kvs B (gJ (R',0,⟨s,true,ap.1,ap.2,ks⟩)) (.returned (.tuple #[.int .i64 (R'.st.length:Int),.int .i64 0])) w8) from⟨rfl,_,_,_,gU,HF.out.1.fin (fun k e=>(aT HF.out.1.kd k e).1) gU rG bD⟩
          clear gU rG bD HF Ah
          go_wp2_with fail
          go_ret2
          exact iT.out
       ·have hpb:(pf.2.2 != 0)=true:=by simpa using hpe
        have hp3:gJ E=(⟨pf.2.1,R.st,R.vs+1⟩,pf.2.2,0):=by rw[fE.out,if_pos hpe];unfold gJ;rw[if_pos hpe]
        have iT:=show Hid (DP w base rb c u sv kvs B (gJ E) (.returned (.tuple #[.int .i64 0,.int .i64 pf.2.2])) w1) from(by rw[hp3];exact⟨rfl,_,_,_,H7.out.1.rn,H7.out.1.af⟩)
        clear fE H7 hp3
        go_wp2_with fail
        go_ret2
        exact iT.out
theorem Dt {base rb c B:Nat} (hB:B<=4096):∀ n,zl base rb c B n (cu B n)
 | 0=>fun w u sv kvs R s hR hG hv hst hf hq hr=>by
  have h:=Ai (n:=0) (d:=cu B 0) w hR hB hG hv hst hq hr (fun h1=>absurd (show R.vs=B by omega) h1)
  have e:mh B R s (iU (cu B 0) ⟨R.t,R.st,R.vs+1⟩ s)=cu B 0 R s:=by
   unfold mh
   rw[show cu B 0 R s=(match look R.st s with | some p=>(R,0,p) | none=>(R,110,0)) from by unfold cu;rfl]
   cases look R.st s with
   | some p=>rfl
   | none=>
    simp only
    rw[if_pos (by omega)]
  rw[e] at h
  exact h
 | n+1=>fun w u sv kvs R s hR hG hv hst hf hq hr=>by
  have hD:=Dt (base:=base) (rb:=rb) (c:=c) hB n
  have h:=Ai (n:=n) (d:=cu B n) w hR hB hG hv hst hq hr (fun h1=>by
   have hG1:Gd ⟨R.t,R.st,R.vs+1⟩:=⟨hG.ok,hG.uX,hG.one,hG.kid⟩
   exact⟨hD,qM B n,TP B n,hG1,by simp only;omega,by simp only;omega,by simp only;omega,hB⟩)
  have e:mh B R s (iU (cu B n) ⟨R.t,R.st,R.vs+1⟩ s)=cu B (n+1) R s:=by
   unfold mh cu
   cases look R.st s with
   | some p=>rfl
   | none=>rfl
  rw[e] at h
  exact h
end Go.Proofs.YtkejippimkjjaaaGreatDoor

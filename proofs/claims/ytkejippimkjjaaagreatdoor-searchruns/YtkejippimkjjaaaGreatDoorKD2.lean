import Derived.Test.YtkejippimkjjaaaGreatDoorKD3
import Derived.Test.YtkejippimkjjaaaGreatDoorKG7
import Derived.Test.YtkejippimkjjaaaGreatDoorZR1
import Derived.Test.YtkejippimkjjaaaGreatDoorKG8
import Derived.Test.YtkejippimkjjaaaGreatDoorRG1
set_option linter.unusedSimpArgs false
set_option maxRecDepth 100000
set_option maxHeartbeats 8000000
namespace Go.Proofs.YtkejippimkjjaaaGreatDoor
open Go.RowKit Go.Shelf Go.Maps
open Fm (Nd)
open Bt.Bs (Ok wd)
theorem Uv (w:World) (c B:Nat):(Instr.build 71 #[(0,.pointer (some ⟨c,0,none⟩)),(3,.int .i64 (B:Int))]).run Tryz.prog w=.ok (.agg (mD c B 0 (.slice none 0 0))) w:=by kernel_rfl
section
variable {ops:Array Oper} {rest:List Oper} {o:Oper} {a:Act} {Q:Exit->Act->World->Prop} {w:World}
theorem Du (hg:o.guard=none) (x y:Operand) (hop:o.op=Op.build 71 #[(0,x),(3,y)]) (c B:Nat) (hx:a.eval x=.pointer (some ⟨c,0,none⟩)) (hy:a.eval y=.int .i64 (B:Int)) (hK:wpList Tryz.prog ops Q rest (a.put o.dst (.agg (mD c B 0 (.slice none 0 0)))) w):wpList Tryz.prog ops Q (o :: rest) a w:=by
 refine wpList_plain hg fun K' hK' => ?_
 have hrun:=Uv w c B
 unfold Oper.wp
 simp[execOp,hop,hx,hy,hrun,Result.andThen]
 exact hK' _ _ hK
end
structure Fv (w0 W:World) (base rb c:Nat) (u u' aW:Value) (bn:List Value) (B:Nat) (R:Rs) (b6:Nat):Prop where
 rn:gN W base rb c u' aW bn B R
 lu:bQ w0.heap.size u u'
 kp:Kp (Fr c u) w0 W
 c6:Cl W b6 (dK false (.slice none 0 0) 0) 35
 g6:w0.heap.size<=b6
theorem Fv.drew {w0 W:World} {base rb c:Nat} {u u' aW:Value} {bn:List Value} {B:Nat} {R:Rs} {b6:Nat} (h:Fv w0 W base rb c u u' aW bn B R b6):Fv w0 W.drew base rb c u u' aW bn B R b6:=⟨h.rn.drew,h.lu,h.kp.drew,h.c6,h.g6⟩
theorem Fv.set {w0 W W':World} {base rb c:Nat} {u u' aW:Value} {bn:List Value} {B:Nat} {R:Rs} {b6:Nat} (h:Fv w0 W base rb c u u' aW bn B R b6) (hk:dY b6 W W'):dU W' base aW R.st bn/\aO w0 c u R.t W':=by
 have n6:=h.rn.other h.c6 (by decide) (by decide) (by decide) (Or.inl (by decide))
 have k6:=h.rn.dG.wJ h.c6 (by decide)
 have g6:=h.g6
 exact⟨h.rn.dG.keep (fun k e=>hk.block k (h.rn.dG.blk e).2.1 (fun e2=>n6 (e2 ▸ Or.inr (Or.inl e)))) (fun k e=>hk.block k (h.rn.dG.kb e).2.1 (fun e2=>k6 (e2 ▸ e))),u',h.rn.tr.keep (fun k e=>hk.block k (h.rn.tr.foot k e) (fun e2=>n6 (e2 ▸ Or.inr (Or.inr e)))),h.lu,h.kp.trans (S':=fun k=>k=b6) hk (fun i hi=>Or.inr (by omega))⟩
theorem Dv (w:World) {c:Nat} {u:Value} {t:List Nd} (hT:Tr w c u t) {s:SQ} (hr:Ok s.1) (bE:Int) :
 Calls Tryz.prog 7 #[.pointer (some ⟨c,0,none⟩),.agg (ak s.1 s.2),.int .i64 bE] w fun e w'=>∃ sv,e=.returned (.tuple #[.agg (dK (gX t s bE).pv sv (gX t s bE).vs),.int .i64 (gX t s bE).err])/\(∃ kvs,dU w' w.heap.size sv (gX t s bE).st kvs)/\aO w c u (gX t s bE).t w':=by
 have hl:=hr.1
 obtain⟨up,uc,rfl⟩:=hT.row.form
 have HT:=show Hid (∀ W:World,Below w.heap.size w W->Tr W c (.slice up t.length uc) t) from fun W h=>hT.later h
 have HA:=show Hid (∀ W:World,Below w.heap.size w W->aO w c (.slice up t.length uc) t W) from fun W h=>aO.of_below hT h
 have HR:=show Hid (Ok s.1) from hr
 have Ab:=show Hid (eB t s.1 s.2=true->eD t.length s) from fun h=>jN.1 h
 have HF:=show Hid (gX t s bE=if (if eB t s.1 s.2 then (0:Int) else 31)≠0 then ⟨(if eB t s.1 s.2 then 0 else 31),t,false,[],0⟩ else if bE<1\/4096<bE then ⟨2,t,false,[],0⟩ else if (cu bE.toNat bE.toNat ⟨t,[],0⟩ s).2.1≠0 then ⟨(cu bE.toNat bE.toNat ⟨t,[],0⟩ s).2.1,t,false,[],0⟩ else ⟨0,(cu bE.toNat bE.toNat ⟨t,[],0⟩ s).1.t,((cu bE.toNat bE.toNat ⟨t,[],0⟩ s).1.st.getD (cu bE.toNat bE.toNat ⟨t,[],0⟩ s).2.2 dX).pv,(cu bE.toNat bE.toNat ⟨t,[],0⟩ s).1.st,(cu bE.toNat bE.toNat ⟨t,[],0⟩ s).1.vs⟩) from by rw[<- oZ hr];rfl
 have hlen:=hT.ok.len
 generalize gX t s bE=X at *
 clear hT hr
 go_enter Tryz.func7,Tryz.ntmps7
 go_wp2_with (refine aI 27 _ rfl _ rfl rfl ?_)
 intro w1 b4 hn1
 go_wp2_with (refine aF 35 rfl _ l7 rfl ?_)
 intro w2 b6 hn2
 have H2:=show Hid (RL w w2 b4 b6 s) from⟨Cl.new hn1.blk hn2,hn2.blk,aS hn1.au hn2,by have:=hn1.au.size;have:=hn2.ge;omega⟩
 clear hn1 hn2
 have KA:=show Hid _ from GN w2 (HT.out w2 H2.out.au) HR.out s.2
 generalize eB t s.1 s.2=rq at *
 go_wp2_with (refine aJ _ _ rfl b4 rfl H2.out.s4 hl rfl ?_)
 refine Calls.mono KA.out ?_
 rintro e w3 ⟨rfl,hb3⟩
 have H3:=show Hid _ from H2.out.later hb3
 clear H2 hb3 KA
 cases rq with
 | true=>
  have HG:=show Hid (eD t.length s) from Ab.out rfl
  have hX1:X=if bE<1\/4096<bE then ⟨2,t,false,[],0⟩ else if (cu bE.toNat bE.toNat ⟨t,[],0⟩ s).2.1≠0 then ⟨(cu bE.toNat bE.toNat ⟨t,[],0⟩ s).2.1,t,false,[],0⟩ else ⟨0,(cu bE.toNat bE.toNat ⟨t,[],0⟩ s).1.t,((cu bE.toNat bE.toNat ⟨t,[],0⟩ s).1.st.getD (cu bE.toNat bE.toNat ⟨t,[],0⟩ s).2.2 dX).pv,(cu bE.toNat bE.toNat ⟨t,[],0⟩ s).1.st,(cu bE.toNat bE.toNat ⟨t,[],0⟩ s).1.vs⟩:=by rw[HF.out,if_neg (by simp)]
  have nP:=show Hid _ from hX1
  clear hX1 HF Ab
  by_cases hbd:bE<1\/4096<bE
  ·have hX:X=⟨2,t,false,[],0⟩:=by rw[nP.out,if_pos hbd]
   subst hX
   clear nP
   rcases hbd with hbd | hbd
   ·go_wp2_with (first|(refine iX rfl rfl ?_)|(refine aK 35 rfl rfl _ _ rfl b6 rfl _ rfl _ _ H3.out.c6 (by rw[iN];rfl) rfl (fU ..) ?_))
    intro w4 hc4 hk4
    go_wp2_with fail
    refine bodyPost_ret (iy rfl _ _ b6 rfl hc4 rfl) rfl ?_
    exact⟨_,rfl,⟨[],lq _ _⟩,HA.out _ (aP H3.out.au hk4 H3.out.g6)⟩
   ·have hb1:¬ bE<1:=by omega
    go_wp2_with (first|(refine iX rfl rfl ?_)|(refine aK 35 rfl rfl _ _ rfl b6 rfl _ rfl _ _ H3.out.c6 (by rw[iN];rfl) rfl (fU ..) ?_))
    intro w4 hc4 hk4
    go_wp2_with fail
    refine bodyPost_ret (iy rfl _ _ b6 rfl hc4 rfl) rfl ?_
    exact⟨_,rfl,⟨[],lq _ _⟩,HA.out _ (aP H3.out.au hk4 H3.out.g6)⟩
  ·have hX2:=nP.out
   rw[if_neg hbd] at hX2
   obtain⟨B,Tg⟩:∃ B:Nat,bE=B:=⟨bE.toNat,by omega⟩
   subst Tg
   rw[Int.toNat_natCast] at hX2
   have hb1:¬ (B:Int)<1:=by omega
   have hb2:¬ (4096:Int)<(B:Int):=by omega
   have sI:=show Hid _ from hX2
   clear hX2 nP hbd
   have c0:=(HT.out w3 H3.out.au).c0
   go_wp2_with (first|(refine Du rfl _ _ rfl c B rfl rfl ?_)|(refine aI 71 _ rfl _ rfl rfl ?_))
   intro w5 rb bB
   have H5:=show Hid (RL w w5 b4 b6 s/\gN w5 w.heap.size rb c (.slice up t.length uc) (.slice none 0 0) [] B ⟨t,[],0⟩) from(by
    have hL:=H3.out.later bB.au
    have e3:=H3.out.au.size;have e6:=bB.ge
    exact⟨hL,bB.blk,HT.out w5 hL.au,lq _ _,⟨by omega,hL.au.size⟩⟩)
   clear bB H3 c0
   have xP:=show Hid (Gd ⟨t,[],0⟩) from⟨(HT.out w (Below.refl _ _)).ok,fun x hx=>(by cases hx),fun i j x y h=>(by simp at h),fun i x h=>(by simp at h)⟩
   have KD:=show Hid _ from Dt (base:=w.heap.size) (rb:=rb) (c:=c) (B:=B) (by omega) B w5 (.slice up t.length uc) (.slice none 0 0) [] ⟨t,[],0⟩ s H5.out.2 xP.out (Nat.zero_le _) (Nat.le_refl _) (by simp only;omega) HG.out HR.out
   have yF:=show Hid (qK B ⟨t,[],0⟩ s (cu B B ⟨t,[],0⟩ s)) from qM B B _ s xP.out (Nat.zero_le _) HG.out HR.out
   generalize cu B B ⟨t,[],0⟩ s=q at *
   go_wp2_with (refine aJ _ _ rfl b4 rfl H5.out.1.s4 hl rfl ?_)
   refine Calls.mono KD.out ?_
   rintro e w6 ⟨rfl,u6,sH,iW,rE,pF⟩
   have H6:=show Hid (Fv w w6 w.heap.size rb c (.slice up t.length uc) u6 sH iW B q.1 b6) from(by
    have n6:=H5.out.2.other H5.out.1.c6 (by decide) (by decide) (by decide) (Or.inl (by decide))
    have hsz:=H5.out.1.au.size
    refine⟨rE,fun k e => ?_,(Kp.of_below (S:=Fr c (.slice up t.length uc)) H5.out.1.au).trans pF.kp (fun k hf => ?_),pF.cl H5.out.1.c6 n6,H5.out.1.g6⟩
    ·rcases pF.lu k e with h1 | h1
     ·exact Or.inl h1
     ·exact Or.inr (by omega)
    ·rcases hf with e | e | e
     ·have:=H5.out.2.bs.1;exact Or.inr (by omega)
     ·cases e
     ·exact Or.inl e)
   clear rE pF KD H5
   by_cases he:q.2.1=0
   ·have sG:(q.2.1 != 0)=false:=by rw[he];rfl
    obtain⟨y,hy,_,_⟩:=yF.out.at he
    have Tj:=(List.getElem?_eq_some_iff.1 hy).1
    obtain⟨pv,hpv⟩:∃ pv,pv=y.pv:=⟨_,rfl⟩
    have pG:X=⟨0,q.1.t,pv,q.1.st,q.1.vs⟩:=by rw[sI.out,if_neg (by rw[he];simp),getD_some hy dX,hpv]
    subst pG
    obtain⟨gs,cs,rfl,hpc⟩:=H6.out.rn.dG.pv hy
    have Tk:=show Hid (w6.cell? ⟨gs,q.2.2 * 21+17,none⟩=some (.bool pv)) from by rw[hpv];exact hpc
    have hil:(q.2.2:Int)<(q.1.st.length:Int):=by omega
    clear sI yF hy hpc hpv
    go_wp2_with fail
    refine dO (by kernel_rfl) 17 [some 46,some 47,some 48,some 49,some 50,some 51,some 52,some 53,some 54,some 55,some 56,some 57,some 58,some 59,some 60,some 61,some 62,none,some 7] [[],[0],[1],[2],[],[3,4],[5],[6],[],[8],[9],[10],[],[12],[13],[14],[7,11,15],[16],[]] [[],[0],[1,0],[2,1,0],[],[3,2,1,0,4],[5,3,2,1,0,4],[6,5,3,2,1,0,4],[],[8],[9,8],[10,9,8],[],[12],[13,12],[14,13,12],[7,6,5,3,2,1,0,4,11,10,9,8,15,14,13,12],[16,7,6,5,3,2,1,0,4,11,10,9,8,15,14,13,12],[]] (by kernel_rfl) (by decide) (fun ii vv w1=>match ii with | 0=>vv=.pointer (some ⟨rb,0,none⟩) | 1=>vv=.pointer (some ⟨rb,0,none⟩) | 2=>vv=.pointer (some ⟨rb,1,none⟩) | 3=>vv=.slice (some ⟨gs,0,none⟩) q.1.st.length cs | 4=>vv=.int .i64 (q.2.2:Int) | 5=>vv=.pointer (some ⟨gs,q.2.2 * 21,none⟩) | 6=>vv=.pointer (some ⟨gs,q.2.2 * 21+17,none⟩) | 7=>vv=.bool pv | 8=>vv=.pointer (some ⟨rb,0,none⟩) | 9=>vv=.pointer (some ⟨rb,0,none⟩) | 10=>vv=.pointer (some ⟨rb,1,none⟩) | 11=>vv=.slice (some ⟨gs,0,none⟩) q.1.st.length cs | 12=>vv=.pointer (some ⟨rb,0,none⟩) | 13=>vv=.pointer (some ⟨rb,0,none⟩) | 14=>vv=.pointer (some ⟨rb,2,none⟩) | 15=>vv=.int .i64 (q.1.vs:Int) | 16=>vv=.agg (dK pv (.slice (some ⟨gs,0,none⟩) q.1.st.length cs) q.1.vs) | 17=>Cl w1 b6 (dK pv (.slice (some ⟨gs,0,none⟩) q.1.st.length cs) q.1.vs) 35/\dY b6 w6.drew w1 | 18=>vv=.int .i64 0 | _=>True) ?hfree (bR 19 ?steps) ?fin
    case hfree=>
     intro j v w1 w2 hj hn h
     match j,h,hj,hn with
     | 0,h,_,_=>exact h
     | 1,h,_,_=>exact h
     | 2,h,_,_=>exact h
     | 3,h,_,_=>exact h
     | 4,h,_,_=>exact h
     | 5,h,_,_=>exact h
     | 6,h,_,_=>exact h
     | 7,h,_,_=>exact h
     | 8,h,_,_=>exact h
     | 9,h,_,_=>exact h
     | 10,h,_,_=>exact h
     | 11,h,_,_=>exact h
     | 12,h,_,_=>exact h
     | 13,h,_,_=>exact h
     | 14,h,_,_=>exact h
     | 15,h,_,_=>exact h
     | 16,h,_,_=>exact h
     | 17,_,hj,_=>exact absurd rfl hj
     | 18,h,_,_=>exact h
     | _+19,_,_,_=>trivial
    case steps=>
     refine⟨⟨⟨⟨⟨⟨⟨⟨⟨⟨⟨⟨⟨⟨⟨⟨⟨⟨⟨trivial,?s0⟩,?s1⟩,?s2⟩,?s3⟩,?s4⟩,?s5⟩,?s6⟩,?s7⟩,?s8⟩,?s9⟩,?s10⟩,?s11⟩,?s12⟩,?s13⟩,?gG⟩,?s15⟩,?s16⟩,?rW⟩,?uJ⟩
     case s0=>
      intro a w1 hw hO hN
      obtain rfl:w1=w6.drew:=hw (by decide)
      have o9:a.tmps[9]?=some (.pointer (some ⟨rb,0,none⟩)):=outs hO 9 rfl
      exact ah rfl (.pointer (some ⟨rb,0,none⟩)) _ rfl (by go_simp) ⟨_,rfl,rfl,fun _=>rfl⟩
     case s1=>
      intro a w1 hw hO hN
      obtain rfl:w1=w6.drew:=hw (by decide)
      obtain⟨v0,g0,r0⟩:=aj hN 0 46
      have e0:v0=.pointer (some ⟨rb,0,none⟩):=r0
      rw[e0] at g0
      exact ah rfl (.pointer (some ⟨rb,0,none⟩)) _ rfl (by go_simp) ⟨_,rfl,rfl,fun _=>rfl⟩
     case s2=>
      intro a w1 hw hO hN
      obtain rfl:w1=w6.drew:=hw (by decide)
      obtain⟨v1,g1,r1⟩:=aj hN 1 47
      have e1:v1=.pointer (some ⟨rb,0,none⟩):=r1
      rw[e1] at g1
      exact ah rfl (.pointer (some ⟨rb,1,none⟩)) _ rfl (by go_simp) ⟨_,rfl,rfl,fun _=>rfl⟩
     case s3=>
      intro a w1 hw hO hN
      obtain rfl:w1=w6.drew:=hw (by decide)
      obtain⟨v2,g2,r2⟩:=aj hN 2 48
      have e2:v2=.pointer (some ⟨rb,1,none⟩):=r2
      rw[e2] at g2
      have hc:w6.drew.cell? ⟨rb,1,none⟩=some (.slice (some ⟨gs,0,none⟩) q.1.st.length cs):=H6.out.drew.rn.run.cell 1
      exact ah rfl (.slice (some ⟨gs,0,none⟩) q.1.st.length cs) _ rfl (by go_simp) ⟨_,rfl,rfl,fun _=>rfl⟩
     case s4=>
      intro a w1 hw hO hN
      obtain rfl:w1=w6.drew:=hw (by decide)
      have kT:a.tmps[10]?=some (.int .i64 (q.2.2:Int)):=outs hO 10 rfl
      exact ah rfl (.int .i64 (q.2.2:Int)) _ rfl (by go_simp) ⟨_,rfl,rfl,fun _=>rfl⟩
     case s5=>
      intro a w1 hw hO hN
      obtain rfl:w1=w6.drew:=hw (by decide)
      obtain⟨v3,g3,r3⟩:=aj hN 3 49
      have e3:v3=.slice (some ⟨gs,0,none⟩) q.1.st.length cs:=r3
      rw[e3] at g3
      obtain⟨v4,g4,r4⟩:=aj hN 4 50
      have e4:v4=.int .i64 (q.2.2:Int):=r4
      rw[e4] at g4
      exact ah rfl (.pointer (some ⟨gs,q.2.2 * 21,none⟩)) _ rfl (by go_simp) ⟨_,rfl,rfl,fun _=>rfl⟩
     case s6=>
      intro a w1 hw hO hN
      obtain rfl:w1=w6.drew:=hw (by decide)
      obtain⟨v5,g5,r5⟩:=aj hN 5 51
      have e5:v5=.pointer (some ⟨gs,q.2.2 * 21,none⟩):=r5
      rw[e5] at g5
      exact ah rfl (.pointer (some ⟨gs,q.2.2 * 21+17,none⟩)) _ rfl (by go_simp) ⟨_,rfl,rfl,fun _=>rfl⟩
     case s7=>
      intro a w1 hw hO hN
      obtain rfl:w1=w6.drew:=hw (by decide)
      obtain⟨v6,g6,r6⟩:=aj hN 6 52
      have e6:v6=.pointer (some ⟨gs,q.2.2 * 21+17,none⟩):=r6
      rw[e6] at g6
      have hc:w6.drew.cell? ⟨gs,q.2.2 * 21+17,none⟩=some (.bool pv):=Tk.out
      exact ah rfl (.bool pv) _ rfl (by go_simp) ⟨_,rfl,rfl,fun _=>rfl⟩
     case s8=>
      intro a w1 hw hO hN
      obtain rfl:w1=w6.drew:=hw (by decide)
      have o9:a.tmps[9]?=some (.pointer (some ⟨rb,0,none⟩)):=outs hO 9 rfl
      exact ah rfl (.pointer (some ⟨rb,0,none⟩)) _ rfl (by go_simp) ⟨_,rfl,rfl,fun _=>rfl⟩
     case s9=>
      intro a w1 hw hO hN
      obtain rfl:w1=w6.drew:=hw (by decide)
      obtain⟨v8,g8,r8⟩:=aj hN 8 54
      have e8:v8=.pointer (some ⟨rb,0,none⟩):=r8
      rw[e8] at g8
      exact ah rfl (.pointer (some ⟨rb,0,none⟩)) _ rfl (by go_simp) ⟨_,rfl,rfl,fun _=>rfl⟩
     case s10=>
      intro a w1 hw hO hN
      obtain rfl:w1=w6.drew:=hw (by decide)
      obtain⟨v9,g9,r9⟩:=aj hN 9 55
      have e9:v9=.pointer (some ⟨rb,0,none⟩):=r9
      rw[e9] at g9
      exact ah rfl (.pointer (some ⟨rb,1,none⟩)) _ rfl (by go_simp) ⟨_,rfl,rfl,fun _=>rfl⟩
     case s11=>
      intro a w1 hw hO hN
      obtain rfl:w1=w6.drew:=hw (by decide)
      obtain⟨v10,g10,bM⟩:=aj hN 10 56
      have e10:v10=.pointer (some ⟨rb,1,none⟩):=bM
      rw[e10] at g10
      have hc:w6.drew.cell? ⟨rb,1,none⟩=some (.slice (some ⟨gs,0,none⟩) q.1.st.length cs):=H6.out.drew.rn.run.cell 1
      exact ah rfl (.slice (some ⟨gs,0,none⟩) q.1.st.length cs) _ rfl (by go_simp) ⟨_,rfl,rfl,fun _=>rfl⟩
     case s12=>
      intro a w1 hw hO hN
      obtain rfl:w1=w6.drew:=hw (by decide)
      have o9:a.tmps[9]?=some (.pointer (some ⟨rb,0,none⟩)):=outs hO 9 rfl
      exact ah rfl (.pointer (some ⟨rb,0,none⟩)) _ rfl (by go_simp) ⟨_,rfl,rfl,fun _=>rfl⟩
     case s13=>
      intro a w1 hw hO hN
      obtain rfl:w1=w6.drew:=hw (by decide)
      obtain⟨v12,g12,bT⟩:=aj hN 12 58
      have e12:v12=.pointer (some ⟨rb,0,none⟩):=bT
      rw[e12] at g12
      exact ah rfl (.pointer (some ⟨rb,0,none⟩)) _ rfl (by go_simp) ⟨_,rfl,rfl,fun _=>rfl⟩
     case gG=>
      intro a w1 hw hO hN
      obtain rfl:w1=w6.drew:=hw (by decide)
      obtain⟨v13,g13,bY⟩:=aj hN 13 59
      have e13:v13=.pointer (some ⟨rb,0,none⟩):=bY
      rw[e13] at g13
      exact ah rfl (.pointer (some ⟨rb,2,none⟩)) _ rfl (by go_simp) ⟨_,rfl,rfl,fun _=>rfl⟩
     case s15=>
      intro a w1 hw hO hN
      obtain rfl:w1=w6.drew:=hw (by decide)
      obtain⟨v14,g14,bZ⟩:=aj hN 14 60
      have e14:v14=.pointer (some ⟨rb,2,none⟩):=bZ
      rw[e14] at g14
      have hc:w6.drew.cell? ⟨rb,2,none⟩=some (.int .i64 (q.1.vs:Int)):=H6.out.drew.rn.run.cell 2
      exact ah rfl (.int .i64 (q.1.vs:Int)) _ rfl (by go_simp) ⟨_,rfl,rfl,fun _=>rfl⟩
     case s16=>
      intro a w1 hw hO hN
      obtain rfl:w1=w6.drew:=hw (by decide)
      obtain⟨v7,g7,r7⟩:=aj hN 7 53
      have e7:v7=.bool pv:=r7
      rw[e7] at g7
      obtain⟨v11,g11,bP⟩:=aj hN 11 57
      have e11:v11=.slice (some ⟨gs,0,none⟩) q.1.st.length cs:=bP
      rw[e11] at g11
      obtain⟨v15,g15,dI⟩:=aj hN 15 61
      have e15:v15=.int .i64 (q.1.vs:Int):=dI
      rw[e15] at g15
      have hb1:=Ol w6.drew pv (some ⟨gs,0,none⟩) q.1.st.length cs q.1.vs
      exact ah rfl (.agg (dK pv (.slice (some ⟨gs,0,none⟩) q.1.st.length cs) q.1.vs)) _ rfl (by simp[execOp,Act.eval,g7,g11,g15,hb1,Result.andThen]) ⟨_,rfl,rfl,fun _=>rfl⟩
     case rW=>
      intro a w1 hw hO hN
      obtain rfl:w1=w6.drew:=hw (by decide)
      obtain⟨v16,g16,r16⟩:=aj hN 16 62
      have e16:v16=.agg (dK pv (.slice (some ⟨gs,0,none⟩) q.1.st.length cs) q.1.vs):=r16
      rw[e16] at g16
      have o6:a.tmps[6]?=some (.pointer (some ⟨b6,0,none⟩)):=outs hO 6 rfl
      have hst:(Instr.storeAt 35 (.pointer (some ⟨b6,0,none⟩)) (.agg (dK pv (.slice (some ⟨gs,0,none⟩) q.1.st.length cs) q.1.vs))).run Tryz.prog w6.drew=.ok () (w6.drew.setRow b6 (dK pv (.slice (some ⟨gs,0,none⟩) q.1.st.length cs) q.1.vs)):=by
       simp only[Instr.storeAt,Instr.sureAddr,Sem.run_bind,Sem.run_pure,Result.andThen]
       exact run_storeVar_row w6.drew b6 35 35 _ _ H6.out.drew.c6 (by rw[iN];rfl) rfl (fU ..)
      exact je rfl rfl 35 (.tmp 6) (.tmp 62) rfl (by simp[Act.eval,o6]) (by simp[Act.eval,g16]) hst ⟨_,rfl,⟨setRow_heap w6.drew b6 _ _ _ _ H6.out.drew.c6,fq w6.drew b6 _⟩,fun h=>absurd rfl h⟩
     case uJ=>
      intro a w1 hw hO hN
      exact ah rfl (.int .i64 0) _ rfl (by go_simp) ⟨_,rfl,rfl,fun _=>rfl⟩
    case fin=>
     intro vs w1 hV
     obtain⟨hc17,CZ⟩:Cl w1 b6 (dK pv (.slice (some ⟨gs,0,none⟩) q.1.st.length cs) q.1.vs) 35/\dY b6 w6.drew w1:=hV 17 (by decide)
     have e18:vs 18=.int .i64 0:=hV 18 (by decide)
     obtain⟨Tn,nU⟩:=H6.out.drew.set CZ
     clear hV H6 CZ
     simp only[bg,Act.put,List.setIfInBounds_toArray,List.set_cons_zero,List.set_cons_succ,e18]
     clear e18
     go_wp2_with fail
     refine bodyPost_ret (iy rfl _ _ b6 rfl hc17 rfl) rfl ?_
     exact⟨_,rfl,⟨iW,Tn⟩,nU⟩
   ·have sG:(q.2.1 != 0)=true:=by simpa using he
    have pG:X=⟨q.2.1,t,false,[],0⟩:=by rw[sI.out,if_pos he]
    have hcr:ou q.1.t (t.length:Int)=(0,t):=by
     have hE:=yF.out.ext
     have hlen:=hE.len
     simp only at hlen
     unfold ou
     rw[if_pos ⟨by omega,by omega⟩,Int.toNat_natCast]
     rw[show q.1.t.take t.length=t from hE.take]
    have KC:=show Hid _ from Dg w6 H6.out.rn.tr (t.length:Int)
    rw[hcr] at KC
    subst pG
    clear sI hcr yF
    go_wp2_with fail
    refine Calls.mono KC.out ?_
    rintro e w7 ⟨rfl,C8⟩
    have n6:=H6.out.rn.other H6.out.c6 (by decide) (by decide) (by decide) (Or.inl (by decide))
    have H7:=show Hid (Cl w7 b6 (dK false (.slice none 0 0) 0) 35/\aO w c (.slice up t.length uc) t w7/\w.heap.size<=b6) from(by
     refine⟨?_,aO.trans H6.out.lu H6.out.kp C8,H6.out.g6⟩
     obtain⟨_,_,_,fF⟩:=C8
     exact(fF.block b6 H6.out.c6.lt (fun hf=>n6 (Or.inr (Or.inr hf)))).trans H6.out.c6)
    clear C8 n6 H6 KC
    go_wp2_with (first|(refine iX rfl rfl ?_)|(refine aK 35 rfl rfl _ _ rfl b6 rfl _ rfl _ _ H7.out.1 (by rw[iN];rfl) rfl (fU ..) ?_))
    intro w8 hc8 bD
    go_wp2_with fail
    refine bodyPost_ret (iy rfl _ _ b6 rfl hc8 rfl) rfl ?_
    refine⟨_,rfl,⟨[],lq _ _⟩,?_⟩
    obtain⟨u7,C9,CX,fF⟩:=H7.out.2.1
    have Y1:=H7.out.2.2
    refine⟨u7,C9.keep (fun k hf=>bD.block k (C9.foot k hf) (fun e => ?_)),CX,fF.trans (S':=fun k=>k=b6) bD (fun i hi=>Or.inr (by omega))⟩
    subst e
    exact iL H7.out.1 (by decide) (by decide) C9 hf
 | false=>
  have hX:X=⟨31,t,false,[],0⟩:=by rw[HF.out];rfl
  subst hX
  clear HF Ab
  go_wp2_with (first|(refine iX rfl rfl ?_)|(refine aK 35 rfl rfl _ _ rfl b6 rfl _ rfl _ _ H3.out.c6 (by rw[iN];rfl) rfl (fU ..) ?_))
  intro w4 hc4 hk4
  go_wp2_with fail
  refine bodyPost_ret (iy rfl _ _ b6 rfl hc4 rfl) rfl ?_
  exact⟨_,rfl,⟨[],lq _ _⟩,HA.out _ (aP H3.out.au hk4 H3.out.g6)⟩
theorem Dw {base n:Nat} {e:TypeId} {w:World} {v:Value} {xs:List Int} (h:w.ownsRow base e 1 v n (xs.map (Value.int .i64))):Bt.jH w v xs:=by
 have hl:=h.1
 rw[List.length_map,Nat.mul_one] at hl
 subst hl
 rcases h.2 with ⟨rfl,h0⟩ | ⟨g,cap,cur,rfl,hg,hh,h1,h2,h3,h4⟩
 ·obtain rfl:xs=[]:=List.eq_nil_of_length_eq_zero h0
  exact⟨_,_,rfl,by simp,fun k hk=>absurd hk (by simp)⟩
 ·refine⟨_,_,rfl,by unfold maxLen at h2;omega,fun k hk=>⟨g,0,rfl,?_⟩⟩
  rw[Nat.zero_add,Cl.cell hh k]
  have e:(cur.toList.take (xs.length * 1))[k]?=some (.int .i64 xs[k]):=by
   rw[h4]
   simp[hk]
  rw[List.getElem?_take] at e
  rw[if_pos (by omega)] at e
  simpa using e
theorem Ny (l:List Nat):fJ l=(l.map fun k:Nat=>(k:Int)).map (Value.int .i64):=by simp[fJ]
theorem dU.VA {w:World} {base:Nat} {p:Option Addr} {n c:Nat} {st:List Stp} {kvs:List Value} (h:dU w base (.slice p n c) st kvs) {i:Nat} {x:Stp} (hx:st[i]?=some x):∃ g kp kc,p=some ⟨g,0,none⟩/\w.ownsRow base 3 1 (.slice kp x.kd.length kc) x.kd.length (fJ x.kd)/\w.rangeAt g (i * 21) (dS x (.slice kp x.kd.length kc))/\x.s.1.length=16:=by
 have hpos:0<st.length:=Nat.lt_of_le_of_lt (Nat.zero_le _) (List.getElem?_eq_some_iff.1 hx).1
 obtain⟨g,cap,hs,hc⟩:=h.at hpos
 obtain⟨h1,_,_⟩:=Value.slice.inj hs
 obtain⟨kv,ho,hcell⟩:=hc i x hx
 have hl:=(h.ok x (List.mem_of_getElem? hx)).1
 obtain⟨kp,kc,rfl⟩:=tL ho
 refine⟨g,kp,kc,h1,ho,fun j v hj => ?_,hl⟩
 have hj21:=(List.getElem?_eq_some_iff.1 hj).1
 rw[lX hl] at hj21
 rw[hcell j hj21]
 exact hj
theorem Qw (w:World) (b o:Nat) {x:Stp} {kv:Value} (h:w.rangeAt b o (dS x kv)) (hs:x.s.1.length=16):(Instr.loadAt 46 (.pointer (some ⟨b,o,none⟩))).run Tryz.prog w=.ok (.agg (bG x kv)) w :=
 run_loadAt_mid (P:=Tryz.prog) w b o 46 (dS x kv) _ h Tryz.underlying46 rfl (by rw[su,lX hs])
theorem wQ {ops:Array Oper} {rest:List Oper} {o:Oper} {a:Act} {Q:Exit->Act->World->Prop} (w:World) (hg:Region.wanted o (yielded ops a.tmps)=true) (x:Operand) (hop:o.op=Op.load 46 x) (b k:Nat) (hx:a.eval x=.pointer (some ⟨b,k,none⟩)) {s:Stp} {kv:Value} (h:w.rangeAt b k (dS s kv)) (hs:s.s.1.length=16)
 (hK:wpList Tryz.prog ops Q rest (a.put o.dst (.agg (bG s kv))) w):wpList Tryz.prog ops Q (o :: rest) a w:=by
 refine Bt.wpList_want hg fun K' hK' => ?_
 have hrun:=Qw w b k h hs
 unfold Oper.wp
 simp[execOp,hop,hx,hrun,Result.andThen]
 exact hK' _ _ hK
theorem Dx {x:Stp} (h:x.s.1.length=16) (kv:Value):(dS x kv)[17]?=some (.bool x.pv)/\(dS x kv)[18]?=some (.int .i64 x.ru)/\(dS x kv)[19]?=some (.int .i64 x.mn)/\(dS x kv)[20]?=some kv:=by
 have hl:(Bt.bK x.s.1).length=16:=jV h
 unfold dS
 refine⟨?_,?_,?_,?_⟩ <;> (rw[List.getElem?_append_right (by omega),hl];rfl)
theorem Fw {w:World} {b:Nat} {x:Stp} (h:x.s.1.length=16) {kv:Value} (hc:Cl w b (bG x kv) 46):iY w b 0 x.s.1 x.s.2/\w.cell? ⟨b,17,none⟩=some (.bool x.pv)/\w.cell? ⟨b,18,none⟩=some (.int .i64 x.ru)/\w.cell? ⟨b,19,none⟩=some (.int .i64 x.mn)/\w.cell? ⟨b,20,none⟩=some kv:=by
 have hg:=Dx h kv
 have hcell:∀ j,w.cell? ⟨b,j,none⟩=(dS x kv)[j]?:=fun j=>by
  rw[Cl.cell hc j]
  unfold bG
  simp
 refine⟨fun j v hj => ?_,(hcell 17).trans hg.1,(hcell 18).trans hg.2.1,(hcell 19).trans hg.2.2.1,(hcell 20).trans hg.2.2.2⟩
 have hlb:(Bt.bK x.s.1).length=16:=jV h
 have Ww:j<17:=by
  have:=(List.getElem?_eq_some_iff.1 hj).1
  simp[hlb] at this
  omega
 rw[Nat.zero_add,hcell j]
 unfold dS
 rw[show Bt.bK x.s.1 ++ [.int .i64 x.s.2,.bool x.pv,.int .i64 x.ru,.int .i64 x.mn,kv]=(Bt.bK x.s.1 ++ [.int .i64 x.s.2]) ++ [.bool x.pv,.int .i64 x.ru,.int .i64 x.mn,kv] from by simp]
 rw[List.getElem?_append_left (by simp[hlb];omega)]
 exact hj
theorem dU.small {w:World} {base:Nat} {sv:Value} {st:List Stp} {kvs:List Value} (h:dU w base sv st kvs):st.length<=9223372036854775807:=by
 rcases h.row.2 with ⟨_,h0⟩ | ⟨g,cap,cur,rfl,_,hh,h1,h2,h3,h4⟩
 ·omega
 ·unfold maxLen at h2
  omega
theorem Kr (w:World) {tN vU:Nat} {Kt sD:Value} {st:List Stp} {nA l8:List Value} (h1:dU w tN Kt st nA) (h2:dU w vU sD st l8) (hsm:st.length<=9223372036854775807) :
 Calls Tryz.prog 20 #[Kt,sD] w fun e w'=>e=.returned (.bool true)/\Below w.heap.size w w':=by
 obtain⟨p1,c1,hs1⟩:=h1.form
 obtain⟨p2,c2,hs2⟩:=h2.form
 subst hs1
 subst hs2
 have HB:=show Hid (dU w tN (.slice p1 st.length c1) st nA/\dU w vU (.slice p2 st.length c2) st l8) from⟨h1,h2⟩
 clear h1 h2
 go_enter Tryz.func20,Tryz.ntmps20
 go_wp2_with fail
 go_loopw [5] (fun iv wr=>∃ i:Nat,i<=st.length/\iv=.int .i64 (i:Int)/\Hid (Below w.heap.size w wr)) (fun iv _=>st.length - (intOf iv).toNat)
 case atStart=>exact⟨0,by omega,rfl,Below.refl _ _⟩
 case round=>
  obtain⟨i,hi,rfl,Ku⟩:=hrel
  by_cases hlt:i<st.length
  ·have hil:(i:Int)<(st.length:Int):=by omega
   obtain⟨x,hx⟩:∃ x,st[i]?=some x:=⟨_,List.getElem?_eq_getElem hlt⟩
   obtain⟨g1,Kv,Kw,rfl,ho1,hr1,hx16⟩:=(HB.out.1.later Ku.out).VA hx
   have H1:=show Hid (wr.rangeAt g1 (i * 21) (dS x (.slice Kv x.kd.length Kw))/\wr.ownsRow tN 3 1 (.slice Kv x.kd.length Kw) x.kd.length (fJ x.kd)) from⟨hr1,ho1⟩
   have HX:=show Hid (st[i]?=some x) from hx
   clear hr1 ho1 hx
   go_wp2_with (first|(refine wQ _ rfl _ rfl g1 _ rfl H1.out.1 hx16 ?_)|(refine aF 46 rfl _ oH rfl ?_))
   intro w3 b6 aM
   go_wp2_with (refine fZ rfl rfl _ _ rfl b6 rfl (s:=x) hx16 rfl rfl rfl aM.blk ?_)
   intro w4 hc6 dH
   have hb4:Below wr.heap.size wr w4:=aP aM.au dH aM.ge
   have H4:=show Hid (Below w.heap.size w w4/\Cl w4 b6 (bG x (.slice Kv x.kd.length Kw)) 46/\w4.ownsRow tN 3 1 (.slice Kv x.kd.length Kw) x.kd.length (fJ x.kd)) from⟨Ku.out.trans (hb4.mono Ku.out.size),hc6,bV H1.out.2 fun k e=>hb4.block k (aT H1.out.2 k e).2.1⟩
   clear aM hc6 dH hb4 H1 Ku
   obtain⟨g2,Ow,Ox,rfl,ho2,hr2,_⟩:=(HB.out.2.later H4.out.1).VA HX.out
   have H5:=show Hid (w4.rangeAt g2 (i * 21) (dS x (.slice Ow x.kd.length Ox))/\w4.ownsRow vU 3 1 (.slice Ow x.kd.length Ox) x.kd.length (fJ x.kd)) from⟨hr2,ho2⟩
   clear hr2 ho2
   go_wp2_with (first|(refine wQ _ rfl _ rfl g2 _ rfl H5.out.1 hx16 ?_)|(refine aF 46 rfl _ oH rfl ?_))
   intro w5 b7 bB
   go_wp2_with (refine fZ rfl rfl _ _ rfl b7 rfl (s:=x) hx16 rfl rfl rfl bB.blk ?_)
   intro w6 jR fF
   have hb6:Below w4.heap.size w4 w6:=aP bB.au fF bB.ge
   have KI:=show Hid (Calls Tryz.prog 12 #[.slice Kv x.kd.length Kw,.slice Ow x.kd.length Ox] w6 fun e w'=>e=.returned (.bool true)/\Below w6.heap.size w6 w') from(by
    have e1:=bV H4.out.2.2 fun k e=>hb6.block k (aT H4.out.2.2 k e).2.1
    have e2:=bV H5.out.2 fun k e=>hb6.block k (aT H5.out.2 k e).2.1
    rw[Ny] at e1 e2
    exact Ac w6 _ _ _ (Dw e1) (Dw e2))
   have TW:=show Hid (Below w.heap.size w w6) from H4.out.1.trans (hb6.mono H4.out.1.size)
   obtain⟨q1,q2,q3,q4,q5⟩:=Fw hx16 (H4.out.2.1.later hb6)
   obtain⟨r1,r2,r3,r4,r5⟩:=Fw hx16 jR
   have HQ:=show Hid (iY w6 b6 0 x.s.1 x.s.2/\iY w6 b7 0 x.s.1 x.s.2) from⟨q1,r1⟩
   have ZW:gD x.s.1 x.s.2 x.s.1 x.s.2=true:=by rw[Dp];simp
   clear bB jR fF hb6 q1 r1 H4 H5
   go_wp2_with (first|(refine kL _ rfl _ rfl b6 _ rfl HQ.out.1 hx16 ?_)|(refine kL _ rfl _ rfl b7 _ rfl HQ.out.2 hx16 ?_)|(refine FX _ _ _ _ rfl rfl rfl hx16 hx16 rfl ?_))
   refine Calls.mono KI.out ?_
   rintro e w7 ⟨rfl,bO⟩
   have Zg:=show Hid (Below w.heap.size w w7) from TW.out.trans (bO.mono TW.out.size)
   clear bO KI TW q2 q3 q4 q5 r2 r3 r4 r5
   go_wp2_with fail
   go_roundw
   case rel=>exact⟨i+1,by omega,by go_num,Zg⟩
   case measure=>first|(simp[intOf];done)|(simp[intOf];omega)
  ·have hil:¬ (i:Int)<(st.length:Int):=by omega
   go_wp2_with fail
   go_ret
   exact⟨rfl,Ku.out⟩
theorem Dy (w:World) {tN vU:Nat} {Kt sD:Value} {st:List Stp} {nA l8:List Value} (h1:dU w tN Kt st nA) (h2:dU w vU sD st l8) (hsm:st.length<=9223372036854775807) (pv:Bool) (vs:Nat) :
 Calls Tryz.prog 8 #[.agg (dK pv Kt vs),.agg (dK pv sD vs)] w fun e w'=>e=.returned (.bool true)/\Below w.heap.size w w':=by
 obtain⟨p1,c1,hs1⟩:=h1.form
 obtain⟨p2,c2,hs2⟩:=h2.form
 subst hs1
 subst hs2
 have HB:=show Hid (dU w tN (.slice p1 st.length c1) st nA/\dU w vU (.slice p2 st.length c2) st l8) from⟨h1,h2⟩
 clear h1 h2
 go_enter Tryz.func8,Tryz.ntmps8
 go_wp2_with (refine aI 35 _ rfl _ rfl rfl ?_)
 intro w1 b2 hn1
 go_wp2_with (refine aI 35 _ rfl _ rfl rfl ?_)
 intro w2 b3 hn2
 have hb2:=aS hn1.au hn2
 have h2:=Cl.new hn1.blk hn2
 have h3:=hn2.blk
 have a0:w2.cell? ⟨b2,0,none⟩=some (.bool pv):=Cl.cell h2 0
 have a1:w2.cell? ⟨b2,1,none⟩=some (.slice p1 st.length c1):=Cl.cell h2 1
 have a2:w2.cell? ⟨b2,2,none⟩=some (.int .i64 (vs:Int)):=Cl.cell h2 2
 have d0:w2.cell? ⟨b3,0,none⟩=some (.bool pv):=Cl.cell h3 0
 have d1:w2.cell? ⟨b3,1,none⟩=some (.slice p2 st.length c2):=Cl.cell h3 1
 have d2:w2.cell? ⟨b3,2,none⟩=some (.int .i64 (vs:Int)):=Cl.cell h3 2
 have KS:=show Hid _ from Kr w2 (HB.out.1.later hb2) (HB.out.2.later hb2) hsm
 have HB2:=show Hid (Below w.heap.size w w2) from hb2
 clear hn1 hn2 hb2 h2 h3
 go_wp2_with fail
 refine Calls.mono KS.out ?_
 rintro e w3 ⟨rfl,hb3⟩
 clear KS a0 a1 a2 d0 d1 d2
 go_wp2_with fail
 go_ret
 exact⟨rfl,HB2.out.trans (hb3.mono HB2.out.size)⟩
section
variable {w w1 W W':World} {b4 B M C:Nat} {v u:Value} {t t2 t':List Nd} {r:List Nat} {g:Int}
theorem LX.stepT (h:LX w w1 W b4 B M v C u t t2 r g) (ha:After W B M v t' W'):∃ v',LX w w1 W' b4 B M v' C u t' t2 r g:=by
 obtain⟨v',hp⟩:=h.pr.stepT ha
 obtain⟨_,_,_,hk⟩:=ha
 exact⟨v',hp,(hk.block b4 h.s.lt fun hf=>fI h.s (by decide) (by decide) h.pr.tb hf).trans h.s,h.b1⟩
theorem LX.Av (h:LX w w1 W b4 B M v C u t t2 r g) (ha:aO W C u t' W'):∃ u',LX w w1 W' b4 B M v C u' t t' r g:=by
 obtain⟨u',hp⟩:=h.pr.Av ha
 obtain⟨_,_,_,hk⟩:=ha
 exact⟨u',hp,(hk.block b4 h.s.lt fun hf=>iL h.s (by decide) (by decide) h.pr.tr hf).trans h.s,h.b1⟩
theorem LX.turn (h:LX w w1 W b4 B M v C u t t2 r g) {k:Nat} {cs:Array Value} {T:TypeId} (hc:Cl W k cs T) (hT:T=3\/T=46) (hge:w1.heap.size<=k) (hk:dY k W W'):LX w w1 W' b4 B M v C u t t2 r g:=by
 have n1:T≠27:=by rcases hT with rfl | rfl <;> decide
 have n2:∀ j,Ft B M v j->j≠k:=fun j hf e=>by
  subst e
  rcases hT with rfl | rfl
  ·exact fI hc (by decide) (by decide) h.pr.tb hf
  ·exact fI hc (by decide) (by decide) h.pr.tb hf
 have n3:∀ j,Fr C u j->j≠k:=fun j hf e=>by
  subst e
  rcases hT with rfl | rfl
  ·exact iL hc (by decide) (by decide) h.pr.tr hf
  ·exact iL hc (by decide) (by decide) h.pr.tr hf
 refine⟨⟨h.pr.tb.keep fun j hf=>hk.block j (h.pr.tb.foot j hf) (n2 j hf),h.pr.tr.keep fun j hf=>hk.block j (h.pr.tr.foot j hf) (n3 j hf),h.pr.Jc,h.pr.bt,h.pr.br,aP h.pr.au hk hge⟩,(hk.block b4 h.s.lt fun e => ?_).trans h.s,h.b1⟩
 subst e
 exact n1 (dF hc h.s)
end
section
variable {W W':World} {C base:Nat} {u sv:Value} {t t':List Nd} {st:List Stp} {kvs:List Value}
theorem dU.VB (h:dU W base sv st kvs) (hT:Tr W C u t) (ha:aO W C u t' W'):dU W' base sv st kvs:=by
 obtain⟨_,_,_,hk⟩:=ha
 refine h.keep (fun k e => ?_) (fun k e => ?_)
 ·obtain⟨_,hlt,cur,hc⟩:=h.blk e
  exact hk.block k hlt fun hf=>iL hc (by decide) (by decide) hT hf
 ·obtain⟨_,hlt,cur,hc⟩:=h.kb e
  exact hk.block k hlt fun hf=>iL hc (by decide) (by decide) hT hf
theorem Ky {k:Nat} {cs:Array Value} {T:TypeId} (hc:Cl W k cs T) (h1:T≠68) (h2:T≠54) (hT:Tr W C u t) (ha:aO W C u t' W'):Cl W' k cs T:=by
 obtain⟨_,_,_,hk⟩:=ha
 exact(hk.block k hc.lt fun hf=>iL hc h1 h2 hT hf).trans hc
end
structure LR (w w1 W:World) (b4 B M:Nat) (v:Value) (C:Nat) (u:Value) (t:List Nd) (r:List Nat) (g:Int) (b10:Nat) (pv:Bool) (p:Option Addr) (n c vs:Nat) (kvs:List Value):Prop where
 lx:LX w w1 W b4 B M v C u t t r g
 c10:Cl W b10 (dK pv (.slice p n c) vs) 35
 len:kvs.length=n
 row:n=0\/∃ q cur,p=some ⟨q,0,none⟩/\w1.heap.size<=q/\Cl W q cur 46/\n * 21<=cur.size/\∀ i,i<n->cur[i * 21+20]?=kvs[i]?
 kid:∀ (i:Nat) (kv:Value),kvs[i]?=some kv->∃ kp m kc,kv=.slice kp m kc/\m<=9223372036854775807/\(m=0\/∃ kb cur,kp=some ⟨kb,0,none⟩/\w1.heap.size<=kb/\Cl W kb cur 3/\m<=cur.size)
section
variable {w w1 W W':World} {b4 B M C b10:Nat} {v u:Value} {t:List Nd} {r:List Nat} {g:Int} {pv:Bool} {p:Option Addr} {n c vs:Nat} {kvs:List Value}
theorem LR.start {st:List Stp} (h:LX w w1 W b4 B M v C u t t r g) (hc:Cl W b10 (dK pv (.slice p st.length c) vs) 35) {base:Nat} (hS:dU W base (.slice p st.length c) st kvs) (hb:w1.heap.size<=base):LR w w1 W b4 B M v C u t r g b10 pv p st.length c vs kvs:=by
 refine⟨h,hc,hS.len,?_,fun i kv hk => ?_⟩
 ·rcases hS.row.2 with ⟨_,h0⟩ | ⟨q,cap,cur,he,hq,hh,h1,h2,h3,h4⟩
  ·exact Or.inl h0
  ·refine Or.inr ⟨q,cur,(Value.slice.inj he).1,Nat.le_trans hb hq,hh,?_,fun i hi => ?_⟩
   ·have e:=congrArg List.length h4
    rw[List.length_take] at e
    have e2:(jW st kvs).length=st.length * 21:=hS.row.1
    have e3:cur.toList.length=cur.size:=by simp
    omega
   ·have hki:i<kvs.length:=by rw[hS.len];exact hi
    have e:=vS st kvs (fun y hy=>(hS.ok y hy).1) i 20 st[i] kvs[i] (List.getElem?_eq_getElem hi) (List.getElem?_eq_getElem hki) (by omega)
    rw[<- h4,List.getElem?_take,if_pos (by omega),(Dx (hS.ok _ (List.getElem_mem hi)).1 _).2.2.2] at e
    rw[List.getElem?_eq_getElem hki,<- e]
    simp
 ·have hi:i<st.length:=by rw[<- hS.len];exact(List.getElem?_eq_some_iff.1 hk).1
  have ho:=hS.kid i st[i] kv (List.getElem?_eq_getElem hi) hk
  rcases ho.2 with ⟨rfl,h0⟩ | ⟨q,cap,cur,rfl,hq,hh,h1,h2,h3,h4⟩
  ·exact⟨_,_,_,rfl,by omega,Or.inl rfl⟩
  ·refine⟨_,_,_,rfl,by unfold maxLen at h2;omega,Or.inr ⟨q,cur,rfl,Nat.le_trans hb hq,hh,?_⟩⟩
   have e:=congrArg List.length h4
   rw[List.length_take] at e
   have e2:(fJ st[i].kd).length=st[i].kd.length:=by simp[fJ]
   have e3:cur.toList.length=cur.size:=by simp
   omega
theorem LR.turn (h:LR w w1 W b4 B M v C u t r g b10 pv p n c vs kvs) {k:Nat} {cs cs':Array Value} {T:TypeId} (hc:Cl W k cs T) (hT:T=3\/T=46) (hge:w1.heap.size<=k) (hk:dY k W W') (hc':Cl W' k cs' T) (hs:cs'.size=cs.size) (h20:T=46->∀ i,cs'[i * 21+20]?=cs[i * 21+20]?):LR w w1 W' b4 B M v C u t r g b10 pv p n c vs kvs:=by
 refine⟨h.lx.turn hc hT hge hk,(hk.block b10 h.c10.lt fun e => ?_).trans h.c10,h.len,?_,fun i kv hkv => ?_⟩
 ·subst e
  rcases hT with rfl | rfl
  ·exact absurd (dF hc h.c10) (by decide)
  ·exact absurd (dF hc h.c10) (by decide)
 ·rcases h.row with h0 | ⟨q,cur,h1,h2,h3,h4,h5⟩
  ·exact Or.inl h0
  ·by_cases e:q=k
   ·subst e
    have eT:T=46:=dF hc h3
    subst eT
    obtain⟨rfl⟩:cs=cur:=by
     have:=hc.symm.trans h3
     injection this with this
     injection this
    exact Or.inr ⟨q,cs',h1,h2,hc',by omega,fun i hi=>(h20 rfl i).trans (h5 i hi)⟩
   ·exact Or.inr ⟨q,cur,h1,h2,(hk.block q h3.lt e).trans h3,h4,h5⟩
 ·obtain⟨kp,m,kc,h1,h2,h3⟩:=h.kid i kv hkv
  refine⟨kp,m,kc,h1,h2,?_⟩
  rcases h3 with h3 | ⟨q,cur,h3,h4,h5,h6⟩
  ·exact Or.inl h3
  ·by_cases e:q=k
   ·subst e
    have eT:T=3:=dF hc h5
    subst eT
    obtain⟨rfl⟩:cs=cur:=by
     have:=hc.symm.trans h5
     injection this with this
     injection this
    exact Or.inr ⟨q,cs',h3,h4,hc',by omega⟩
   ·exact Or.inr ⟨q,cur,h3,h4,(hk.block q h5.lt e).trans h5,h6⟩
end
section
variable {ops:Array Oper} {rest:List Oper} {o:Oper} {a:Act} {Q:Exit->Act->World->Prop} {w:World}
theorem yJ (hg:o.guard=none) (hd:o.dst=none) (x y:Operand) (hop:o.op=Op.store 3 x y) (b k:Nat) (hx:a.eval x=.pointer (some ⟨b,k,none⟩)) (m:Int) (hy:a.eval y=.int .i64 m) {cs:Array Value} {T:TypeId} (h:Cl w b cs T) (hk:k<cs.size)
 (hK:∀ w',Cl w' b (cs.setIfInBounds k (.int .i64 m)) T->dY b w w'->wpList Tryz.prog ops Q rest a w'):wpList Tryz.prog ops Q (o :: rest) a w:=by
 refine wpList_plain hg fun K' hK' => ?_
 have hrun:(Instr.storeAt 3 (.pointer (some ⟨b,k,none⟩)) (.int .i64 m)).run Tryz.prog w=.ok () (w.setCell ⟨b,k,none⟩ (.int .i64 m)):=by
  have hc:w.cell? ⟨b,k,none⟩=some cs[k]:=by rw[Cl.cell h k];exact Array.getElem?_eq_getElem hk
  have hf:=h.fr k
  go_simp
 unfold Oper.wp
 simp[execOp,hop,hx,hy,hrun,Result.andThen]
 rw[Oper.upon_skip,hd]
 exact hK' _ _ (hK _ (heap_setCell_same w b k _ _ _ h) (mG w b k _))
end
theorem zm (w:World) (rv:Value) (rs:List Nd) (hR:kF w rv rs) (hg:∀ n ∈ rs,Fm.good n) (hl:rs.length * 40<=140737488351232) (hv:rv=.slice none 0 0\/∃ a n c,rv=.slice (some a) n c)
 {r:List Nat} (hr:Ok r) (g bE:Int) (hZ:Bt.Tz w) :
 Calls Tryz.prog 3 #[rv,.agg (ak r g),.int .i64 bE] w fun e w'=>e=.returned (.bool true)/\Below w.heap.size w w':=by
 have Ib:=hr.1
 have KT:=show Hid (∀ w',Below w.heap.size w w'->Calls Tryz.prog 4 #[rv] w' fun e w''=>Je w' w'' e (Fm.fr [] rs)) from fun w' hb=>LB w' rv rs (hR.later hb) hg hl hv
 have KH:=show Hid (∀ w':World,Below w.heap.size w w'->Calls Tryz.prog 5 #[] w' fun e w''=>e=.returned (.bool true)/\Below w'.heap.size w' w'') from fun w' hb=>D8 w' (Bt.gB hZ hb)
 have HZ:=show Hid (∀ W:World,Below w.heap.size w W->Bt.Tz W) from fun W hb=>Bt.gB hZ hb
 have pJ:=show Hid (Ok r) from hr
 have hsl:∃ p n cc,rv=.slice p n cc:=by
  rcases hv with rfl | ⟨a,n,cc,rfl⟩
  ·exact⟨_,_,_,rfl⟩
  ·exact⟨_,_,_,rfl⟩
 obtain⟨p,n,cc,rfl⟩:=hsl
 generalize Fm.fr [] rs=ans at *
 clear hR hg hl hv hZ hr
 go_enter Tryz.func3,Tryz.ntmps3
 go_wp2_with (refine aI 27 _ rfl _ rfl rfl ?_)
 intro w1 b4 hn1
 have H1:=show Hid (dz w w1 b4 r g) from⟨hn1.blk,hn1.au,hn1.ge⟩
 clear hn1
 go_wp2_with fail
 refine Calls.mono (KT.out _ H1.out.au) ?_
 rintro e w2 (⟨_,B,M,v,C,u,rfl,hP⟩ | ⟨_,rfl,hb⟩)
 ·have H2:=show Hid (LX w w1 w2 b4 B M v C u ans.2 ans.2 r g) from LX.mk1 H1.out hP
  clear hP H1 KT
  generalize ans.2=t at *
  have K1:=show Hid _ from zh w2 H2.out.pr.tb (HZ.out _ H2.out.au) (s:=(r,g)) pJ.out bE
  have K2:=show Hid (∀ (W:World) (u':Value),Tr W C u' t->Calls Tryz.prog 7 #[.pointer (some ⟨C,0,none⟩),.agg (ak r g),.int .i64 bE] W fun e w'=>∃ sv,e=.returned (.tuple #[.agg (dK (gX t (r,g) bE).pv sv (gX t (r,g) bE).vs),.int .i64 (gX t (r,g) bE).err])/\(∃ kvs,dU w' W.heap.size sv (gX t (r,g) bE).st kvs)/\aO W C u' (gX t (r,g) bE).t w') from fun W u' h=>Dv W h (s:=(r,g)) pJ.out bE
  generalize gX t (r,g) bE=F at *
  go_wp2_with (refine aJ _ _ rfl b4 rfl H2.out.s Ib rfl ?_)
  refine Calls.mono K1.out ?_
  rintro e Oy ⟨sv,rfl,⟨nA,hS⟩,ha⟩
  obtain⟨v13,pG⟩:=H2.out.stepT ha
  obtain⟨vG,c1a,rfl⟩:=hS.form
  have H3:=show Hid (LX w w1 Oy b4 B M v13 C u F.t t r g/\dU Oy w2.heap.size (.slice vG F.st.length c1a) F.st nA/\w1.heap.size<=w2.heap.size) from⟨pG,hS,H2.out.pr.au.size⟩
  clear pG hS ha K1 H2
  go_wp2_with (refine aF 35 rfl _ l7 rfl ?_)
  intro ZX b10 fP
  go_wp2_with (refine aK 35 rfl rfl _ _ rfl b10 rfl (dK F.pv (.slice vG F.st.length c1a) F.vs) rfl _ _ fP.blk (by rw[iN];rfl) rfl (fU ..) ?_)
  intro Dz mF hk5
  have hb5:Below Oy.heap.size Oy Dz:=aP fP.au hk5 fP.ge
  have H5:=show Hid (LX w w1 Dz b4 B M v13 C u F.t t r g/\dU Dz w2.heap.size (.slice vG F.st.length c1a) F.st nA/\w1.heap.size<=w2.heap.size/\Cl Dz b10 (dK F.pv (.slice vG F.st.length c1a) F.vs) 35) from⟨H3.out.1.later hb5,H3.out.2.1.later hb5,H3.out.2.2,mF⟩
  clear fP mF hk5 hb5 H3
  go_wp2_with (refine aJ _ _ rfl b4 rfl H5.out.1.s Ib rfl ?_)
  refine Calls.mono (K2.out Dz u H5.out.1.pr.tr) ?_
  rintro e Fx ⟨sD,rfl,⟨TY,hS2⟩,ha2⟩
  obtain⟨u16,Kz⟩:=H5.out.1.Av ha2
  obtain⟨Oz,OA,rfl⟩:=hS2.form
  have H6:=show Hid (LX w w1 Fx b4 B M v13 C u16 F.t F.t r g/\dU Fx w2.heap.size (.slice vG F.st.length c1a) F.st nA/\dU Fx Dz.heap.size (.slice Oz F.st.length OA) F.st TY/\w1.heap.size<=w2.heap.size/\Cl Fx b10 (dK F.pv (.slice vG F.st.length c1a) F.vs) 35) from⟨Kz,H5.out.2.1.VB H5.out.1.pr.tr ha2,hS2,H5.out.2.2.1,Ky H5.out.2.2.2 (by decide) (by decide) H5.out.1.pr.tr ha2⟩
  clear Kz hS2 ha2 K2 H5
  go_wp2_with (refine aF 35 rfl _ l7 rfl ?_)
  intro ZY b12 qP
  go_wp2_with (refine aK 35 rfl rfl _ _ rfl b12 rfl (dK F.pv (.slice Oz F.st.length OA) F.vs) rfl _ _ qP.blk (by rw[iN];rfl) rfl (fU ..) ?_)
  intro x18 hc8 bD
  have lJ:Below Fx.heap.size Fx x18:=aP qP.au bD qP.ge
  have H8:=show Hid (LX w w1 x18 b4 B M v13 C u16 F.t F.t r g/\dU x18 w2.heap.size (.slice vG F.st.length c1a) F.st nA/\dU x18 Dz.heap.size (.slice Oz F.st.length OA) F.st TY/\w1.heap.size<=w2.heap.size/\Cl x18 b10 (dK F.pv (.slice vG F.st.length c1a) F.vs) 35/\Cl x18 b12 (dK F.pv (.slice Oz F.st.length OA) F.vs) 35) from⟨H6.out.1.later lJ,H6.out.2.1.later lJ,H6.out.2.2.1.later lJ,H6.out.2.2.2.1,H6.out.2.2.2.2.later lJ,hc8⟩
  have KS:=show Hid _ from Dy x18 H8.out.2.1 H8.out.2.2.1 H8.out.2.1.small F.pv F.vs
  clear qP hc8 bD lJ H6
  go_wp2_with (first|(refine gK 35 _ rfl b10 rfl _ 35 H8.out.2.2.2.2.1 rfl Tryz.underlying35 (by rw[iN];rfl) rfl ?_)|(refine gK 35 _ rfl b12 rfl _ 35 H8.out.2.2.2.2.2 rfl Tryz.underlying35 (by rw[iN];rfl) rfl ?_))
  refine Calls.mono KS.out ?_
  rintro e Zh ⟨rfl,jh⟩
  have KL:=show Hid _ from Bq w1 Zh (H8.out.1.pr.later jh)
  go_wp2_with fail
  refine Calls.mono KL.out ?_
  rintro e Zi ⟨rfl,hbz⟩
  have rF:=show Hid (LR w w1 Zi b4 B M v13 C u16 F.t r g b10 F.pv vG F.st.length c1a F.vs nA) from LR.start ((H8.out.1.later jh).later hbz) ((H8.out.2.2.2.2.1.later jh).later hbz) ((H8.out.2.1.later jh).later hbz) H8.out.2.2.2.1
  have hsm:=H8.out.2.1.small
  clear jh hbz KS KL H8
  go_wp2_with fail
  go_loopw [14] (fun iv wr=>∃ i:Nat,i<=F.st.length/\iv=.int .i64 (i:Int)/\Hid (LR w w1 wr b4 B M v13 C u16 F.t r g b10 F.pv vG F.st.length c1a F.vs nA)) (fun iv _=>F.st.length - (intOf iv).toNat)
  case atStart=>exact⟨0,by omega,rfl,rF⟩
  case round=>
   obtain⟨i,hi,rfl,HL⟩:=hrel
   clear rF
   have c1:wr.cell? ⟨b10,1,none⟩=some (.slice vG F.st.length c1a):=HL.out.c10.cell 1
   by_cases hlt:i<F.st.length
   ·have hil:(i:Int)<(F.st.length:Int):=by omega
    obtain⟨kv,hkv⟩:∃ kv,nA[i]?=some kv:=⟨_,List.getElem?_eq_getElem (by rw[HL.out.len];exact hlt)⟩
    obtain⟨kp,m,kc,rfl,hm,_⟩:=HL.out.kid i kv hkv
    obtain⟨q,_,rfl,_⟩:=HL.out.row.resolve_left (by omega)
    have Kn:=show Hid (nA[i]?=some (.slice kp m kc)) from hkv
    clear hkv
    obtain⟨wo,hwo⟩:∃ wo,wo=wr:=⟨_,rfl⟩
    subst hwo
    go_wp2_with fail
    go_loopw [15] (fun jv wr=>∃ k:Nat,k<=m/\jv=.int .i64 (k:Int)/\Hid (LR w w1 wr b4 B M v13 C u16 F.t r g b10 F.pv (some ⟨q,0,none⟩) F.st.length c1a F.vs nA)) (fun jv _=>m - (intOf jv).toNat)
    case atStart=>exact⟨0,by omega,rfl,HL⟩
    case round=>
     obtain⟨k,hk,rfl,HM⟩:=hrel
     clear HL c1
     obtain⟨q2,cur,hq2,hge,hcl,hsz,h20⟩:=HM.out.row.resolve_left (by omega)
     have hqq:q2=q:=by
      injection hq2 with h
      injection h with h
      exact h.symm
     subst hqq
     have c1:wr.cell? ⟨b10,1,none⟩=some (.slice (some ⟨q2,0,none⟩) F.st.length c1a):=HM.out.c10.cell 1
     have c20:wr.cell? ⟨q2,i * 21+20,none⟩=some (.slice kp m kc):=(Cl.cell hcl _).trans ((h20 i hlt).trans Kn.out)
     clear hq2
     by_cases hkt:k<m
     ·have hkl:(k:Int)<(m:Int):=by omega
      obtain⟨Ow,m2,Ox,he,_,hkd⟩:=HM.out.kid i _ Kn.out
      obtain⟨rfl,rfl,rfl⟩:=Value.slice.inj he
      obtain⟨kb,ZG,rfl,Zj,hck,hsk⟩:=hkd.resolve_left (by omega)
      go_wp2_with (refine yJ rfl rfl _ _ rfl kb k rfl (-7) rfl hck (by omega) ?_)
      intro jI DC DF
      have T9:=show Hid _ from HM.out.turn hck (Or.inl rfl) Zj DF DC (by simp) (fun e=>absurd e (by decide))
      clear DC DF HM hck hcl c1 c20 h20
      go_wp2_with fail
      go_roundw
      case rel=>exact⟨k+1,by omega,by go_num,T9⟩
      case measure=>first|(simp[intOf];done)|(simp[intOf];omega)
     ·have hkl:¬ (k:Int)<(m:Int):=by omega
      go_wp2_with (refine yJ rfl rfl _ _ rfl q2 (i * 21+19) rfl (-7) rfl hcl (by omega) ?_)
      intro jI DC DF
      have T9:=show Hid _ from HM.out.turn hcl (Or.inr rfl) hge DF DC (by simp) (fun _ j=>Array.getElem?_setIfInBounds_ne (by omega))
      clear DC DF HM hcl c1 c20 h20
      go_wp2_with fail
      go_roundw
      case rel=>exact⟨i+1,by omega,by go_num,T9⟩
      case measure=>first|(simp[intOf];done)|(simp[intOf];omega)
   ·have hil:¬ (i:Int)<(F.st.length:Int):=by omega
    have Fy:=show Hid _ from HL.out.lx
    clear HL
    have K1:=show Hid _ from zh wr Fy.out.pr.tb (HZ.out _ Fy.out.au) (s:=(r,g)) pJ.out bE
    have K2:=show Hid (∀ (W:World) (u':Value),Tr W C u' F.t->Calls Tryz.prog 7 #[.pointer (some ⟨C,0,none⟩),.agg (ak r g),.int .i64 bE] W fun e w'=>∃ sv,e=.returned (.tuple #[.agg (dK (gX F.t (r,g) bE).pv sv (gX F.t (r,g) bE).vs),.int .i64 (gX F.t (r,g) bE).err])/\(∃ kvs,dU w' W.heap.size sv (gX F.t (r,g) bE).st kvs)/\aO W C u' (gX F.t (r,g) bE).t w') from fun W u' h=>Dv W h (s:=(r,g)) pJ.out bE
    generalize gX F.t (r,g) bE=G at *
    go_wp2_with (refine aJ _ _ rfl b4 rfl Fy.out.s Ib rfl ?_)
    refine Calls.mono K1.out ?_
    rintro e x23 ⟨sv,rfl,⟨l8,hS⟩,ha⟩
    obtain⟨v23,pG⟩:=Fy.out.stepT ha
    obtain⟨Aj,Ak,rfl⟩:=hS.form
    have H3:=show Hid (LX w w1 x23 b4 B M v23 C u16 G.t F.t r g/\dU x23 wr.heap.size (.slice Aj G.st.length Ak) G.st l8/\w1.heap.size<=wr.heap.size) from⟨pG,hS,Fy.out.pr.au.size⟩
    clear pG hS ha K1 Fy
    go_wp2_with (refine aF 35 rfl _ l7 rfl ?_)
    intro x24 b16 fP
    go_wp2_with (refine aK 35 rfl rfl _ _ rfl b16 rfl (dK G.pv (.slice Aj G.st.length Ak) G.vs) rfl _ _ fP.blk (by rw[iN];rfl) rfl (fU ..) ?_)
    intro x25 mF hk5
    have hb5:Below x23.heap.size x23 x25:=aP fP.au hk5 fP.ge
    have H5:=show Hid (LX w w1 x25 b4 B M v23 C u16 G.t F.t r g/\dU x25 wr.heap.size (.slice Aj G.st.length Ak) G.st l8/\w1.heap.size<=wr.heap.size/\Cl x25 b16 (dK G.pv (.slice Aj G.st.length Ak) G.vs) 35) from⟨H3.out.1.later hb5,H3.out.2.1.later hb5,H3.out.2.2,mF⟩
    clear fP mF hk5 hb5 H3
    go_wp2_with (refine aJ _ _ rfl b4 rfl H5.out.1.s Ib rfl ?_)
    refine Calls.mono (K2.out x25 u16 H5.out.1.pr.tr) ?_
    rintro e Fz ⟨sD,rfl,⟨Ua,hS2⟩,ha2⟩
    obtain⟨u26,Kz⟩:=H5.out.1.Av ha2
    obtain⟨OB,OC,rfl⟩:=hS2.form
    have H6:=show Hid (LX w w1 Fz b4 B M v23 C u26 G.t G.t r g/\dU Fz wr.heap.size (.slice Aj G.st.length Ak) G.st l8/\dU Fz x25.heap.size (.slice OB G.st.length OC) G.st Ua/\w1.heap.size<=wr.heap.size/\Cl Fz b16 (dK G.pv (.slice Aj G.st.length Ak) G.vs) 35) from⟨Kz,H5.out.2.1.VB H5.out.1.pr.tr ha2,hS2,H5.out.2.2.1,Ky H5.out.2.2.2 (by decide) (by decide) H5.out.1.pr.tr ha2⟩
    clear Kz hS2 ha2 K2 H5
    go_wp2_with (refine aF 35 rfl _ l7 rfl ?_)
    intro x27 b18 qP
    go_wp2_with (refine aK 35 rfl rfl _ _ rfl b18 rfl (dK G.pv (.slice OB G.st.length OC) G.vs) rfl _ _ qP.blk (by rw[iN];rfl) rfl (fU ..) ?_)
    intro x28 hc8 bD
    have lJ:Below Fz.heap.size Fz x28:=aP qP.au bD qP.ge
    have H8:=show Hid (LX w w1 x28 b4 B M v23 C u26 G.t G.t r g/\dU x28 wr.heap.size (.slice Aj G.st.length Ak) G.st l8/\dU x28 x25.heap.size (.slice OB G.st.length OC) G.st Ua/\w1.heap.size<=wr.heap.size/\Cl x28 b16 (dK G.pv (.slice Aj G.st.length Ak) G.vs) 35/\Cl x28 b18 (dK G.pv (.slice OB G.st.length OC) G.vs) 35) from⟨H6.out.1.later lJ,H6.out.2.1.later lJ,H6.out.2.2.1.later lJ,H6.out.2.2.2.1,H6.out.2.2.2.2.later lJ,hc8⟩
    have KS:=show Hid _ from Dy x28 H8.out.2.1 H8.out.2.2.1 H8.out.2.1.small G.pv G.vs
    clear qP hc8 bD lJ H6
    go_wp2_with (first|(refine gK 35 _ rfl b16 rfl _ 35 H8.out.2.2.2.2.1 rfl Tryz.underlying35 (by rw[iN];rfl) rfl ?_)|(refine gK 35 _ rfl b18 rfl _ 35 H8.out.2.2.2.2.2 rfl Tryz.underlying35 (by rw[iN];rfl) rfl ?_))
    refine Calls.mono KS.out ?_
    rintro e x29 ⟨rfl,jh⟩
    have KL:=show Hid _ from Bq w1 x29 (H8.out.1.pr.later jh)
    go_wp2_with fail
    refine Calls.mono KL.out ?_
    rintro e Zk ⟨rfl,hbz⟩
    have OD:=show Hid (Below w.heap.size w Zk) from((H8.out.1.later jh).later hbz).au
    clear jh hbz KS KL H8 c1
    go_wp2_with fail
    refine Calls.mono (KH.out _ OD.out) ?_
    rintro e Ub ⟨rfl,DI⟩
    have HB:=show Hid (Below w.heap.size w Ub) from OD.out.trans (DI.mono OD.out.size)
    clear DI OD KH
    go_wp2_with fail
    go_ret
    exact⟨rfl,HB.out⟩
 ·have HB1:=show Hid (Below w.heap.size w w2) from H1.out.au.trans (hb.mono H1.out.au.size)
  clear hb H1 KT
  go_wp2_with fail
  refine Calls.mono (KH.out _ HB1.out) ?_
  rintro e Ub ⟨rfl,DI⟩
  have HB:=show Hid (Below w.heap.size w Ub) from HB1.out.trans (DI.mono HB1.out.size)
  clear DI HB1 KH
  go_wp2_with fail
  go_ret
  exact⟨rfl,HB.out⟩
end Go.Proofs.YtkejippimkjjaaaGreatDoor

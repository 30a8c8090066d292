import Derived.Test.YtkejippimkjjaaaGreatDoorKZ
import Derived.Test.YtkejippimkjjaaaGreatDoorZR3
set_option linter.unusedSimpArgs false
set_option maxRecDepth 100000
set_option maxHeartbeats 4000000
namespace Go.Proofs.YtkejippimkjjaaaGreatDoor
open Go.RowKit Go.Shelf Go.Maps
open Fm (Nd)
open Bt.Bs (Ok wd)
structure RX (w W:World) (c:Nat) (u:Value) (t:List Nd) (b4:Nat) (r:List Nat) (g:Int) (q:Nat) (xs:List Int):Prop where
 tr:Tr W c u t
 s:aX W b4 r g
 q:Cl W q (iE xs) 43
 au:Below w.heap.size w W
section
variable {w W W':World} {c:Nat} {u:Value} {t:List Nd} {b4:Nat} {r:List Nat} {g:Int} {q:Nat} {xs:List Int}
theorem RX.later (h:RX w W c u t b4 r g q xs) (hb:Below W.heap.size W W'):RX w W' c u t b4 r g q xs:=⟨h.tr.later hb,h.s.later hb h.s.lt,h.q.later hb,h.au.trans (hb.mono h.au.size)⟩
theorem RX.drew (h:RX w W c u t b4 r g q xs):RX w W.drew c u t b4 r g q xs:=h.later ((Below.refl _ _).drew)
theorem RX.cell (h:RX w W c u t b4 r g q xs) {k:Nat} (hk:k<xs.length):W.cell? ⟨q,k,none⟩=some (.int .i64 xs[k]):=by
 rw[h.q.cell k]
 simp[iE,hk]
end
def Y4 (A:Option (Int × Int)):Value:=.tuple #[.int .i64 (A.getD (0,0)).1,.int .i64 (A.getD (0,0)).2,.bool A.isSome]
theorem Hu (w0:World) {c:Nat} {u:Value} {t:List Nd} (hT:Tr w0 c u t) {r:List Nat} (hr:Ok r) (g:Int) (q:Nat) (xs:List Int) (hq:Cl w0 q (iE xs) 43) (hx:xs.length<=1000) :
 Calls Tryz.prog 54 #[.pointer (some ⟨c,0,none⟩),.agg (ak r g),.slice (some ⟨q,0,none⟩) xs.length xs.length] w0 fun e w'=>e=.returned (Y4 (fl t r g xs).head?)/\Below w0.heap.size w0 w':=by
 have hl:=hr.1
 have hlen:=hT.ok.len
 obtain⟨A,hA⟩:∃ A,A=(fl t r g xs).head?:=⟨_,rfl⟩
 rw[<- hA]
 have H0:=show Hid (A=(iq t r g xs 0).head?) from hA
 have Vp:=show Hid (∀ i,i<t.length->(iq t r g xs i)=jS t r g xs i 0 ++ iq t r g xs (i+1)) from fun i h=>Ck t r g xs h
 have Vq:=show Hid (∀ i k (h:k<xs.length),jS t r g xs i k=kK t r g i xs[k] ++ jS t r g xs i (k+1)) from fun i k h=>SF t r g xs h
 have HE:=show Hid (iq t r g xs t.length=[]) from y7 t r g xs
 have HN:=show Hid (∀ i,jS t r g xs i xs.length=[]) from fun i=>Pz t r g xs
 have Y5:=show Hid (∀ (W:World) (ru m:Int),Tr W c u t->Calls Tryz.prog 56 #[.pointer (some ⟨c,0,none⟩),.agg (ak r g),.int .i64 ru,.int .i64 m] W fun e w'=>e=.returned (.bool (findF t r g ru m))/\Below W.heap.size W w') from fun W ru m h=>fK W h hr g ru m
 have rC:=show Hid (∀ (W:World) (b4:Nat),aX W b4 r g->Below w0.heap.size w0 W->RX w0 W c u t b4 r g q xs) from fun W b4 hs hb=>⟨hT.later hb,hs,hq.later hb,hb⟩
 obtain⟨p,cp,hu,hc1,hc2,hat⟩:=hT.row.gT.at
 clear hA hT hat hq
 subst hu
 go_enter Tryz.func54,Tryz.ntmps54
 go_wp2_with (refine aI 27 _ rfl _ rfl rfl ?_)
 intro w1 b4 hn1
 have H1:=show Hid (RX w0 w1 c (.slice p t.length cp) t b4 r g q xs) from rC.out w1 b4 hn1.blk hn1.au
 clear hn1 rC
 go_wp2_with fail
 go_loopw [9,10] (fun v vk wr=>∃ i:Nat,i<=t.length/\v=.int .i64 (i:Int)/\Hid (RX w0 wr c (.slice p t.length cp) t b4 r g q xs)/\Hid (A=(iq t r g xs i).head?)) (fun v _ _=>t.length - (intOf v).toNat)
 case atStart=>exact⟨0,by omega,rfl,H1,H0⟩
 case round=>
  obtain⟨ix,hi,rfl,HQ,HA⟩:=hrel
  clear H1
  have hc0:=HQ.out.tr.c0
  by_cases hlt:ix<t.length
  ·have sV:(ix:Int)<(t.length:Int):=by omega
   have HA1:=show Hid (A=(jS t r g xs ix 0 ++ iq t r g xs (ix+1)).head?) from(HA.out.trans (by rw[Vp.out ix hlt]):A=(jS t r g xs ix 0 ++ iq t r g xs (ix+1)).head?)
   clear HA
   go_wp2_with fail
   go_loopw [10] (fun v wr=>∃ k:Nat,k<=xs.length/\v=.int .i64 (k:Int)/\Hid (RX w0 wr c (.slice p t.length cp) t b4 r g q xs)/\Hid (A=(jS t r g xs ix k ++ iq t r g xs (ix+1)).head?)) (fun v _=>xs.length - (intOf v).toNat)
   case atStart=>exact⟨0,by omega,rfl,HQ,HA1⟩
   case round=>
    obtain⟨kx,hk,rfl,HK,HA2⟩:=hrel
    clear HQ HA1 hc0
    by_cases hkl:kx<xs.length
    ·have ZV:(kx:Int)<(xs.length:Int):=by omega
     have HX:=show Hid (∀ W:World,RX w0 W c (.slice p t.length cp) t b4 r g q xs->W.cell? ⟨q,kx,none⟩=some (.int .i64 xs[kx])) from fun W h=>h.cell hkl
     have hone:A=((kK t r g ix xs[kx] ++ jS t r g xs ix (kx+1)) ++ iq t r g xs (ix+1)).head?:=by rw[HA2.out,Vq.out ix kx hkl]
     have KF:=show Hid (∀ W:World,RX w0 W c (.slice p t.length cp) t b4 r g q xs->Calls Tryz.prog 56 #[.pointer (some ⟨c,0,none⟩),.agg (ak r g),.int .i64 xs[kx],.int .i64 (ix:Int)] W fun e w'=>e=.returned (.bool (findF t r g xs[kx] (ix:Int)))/\Below W.heap.size W w') from fun W h=>Y5.out W _ _ h.tr
     have HT:=show Hid (findF t r g xs[kx] (ix:Int)=true->A=some (xs[kx],(ix:Int))) from fun h=>by
      rw[hone]
      unfold kK
      rw[if_pos h]
      rfl
     have HF:=show Hid (findF t r g xs[kx] (ix:Int)=false->A=(jS t r g xs ix (kx+1) ++ iq t r g xs (ix+1)).head?) from fun h=>by
      rw[hone]
      unfold kK
      rw[if_neg (by simp[h])]
      rfl
     clear hone HA2
     generalize findF t r g xs[kx] (ix:Int)=ff at *
     generalize xs[kx]=x at *
     go_wp2_with fail
     refine bC (by kernel_rfl) [some 26,some 27,some 28,some 29,some 30,some 31,some 32,some 33] [[],[],[],[],[2,3],[4],[],[0,1,5,6]] (by kernel_rfl) (fun i v w=>match i with | 0=>v=.pointer (some ⟨c,0,none⟩) | 1=>v=.agg (ak r g) | 2=>v=.slice (some ⟨q,0,none⟩) xs.length xs.length | 3=>v=.int .i64 (kx:Int) | 4=>v=.pointer (some ⟨q,kx,none⟩) | 5=>v=.int .i64 x | 6=>v=.int .i64 (ix:Int) | 7=>v=.bool ff | _=>True) (fun _ W=>RX w0 W c (.slice p t.length cp) t b4 r g q xs) (fun _ _=>True) ?hle (HK.out.drew) (bR 8 ?steps) ?fin
     case hle=>
      intro i v w w1 hl h
      match i,h with
      | 0,h=>exact h
      | 1,h=>exact h
      | 2,h=>exact h
      | 3,h=>exact h
      | 4,h=>exact h
      | 5,h=>exact h
      | 6,h=>exact h
      | 7,h=>exact h
      | _+8,h=>trivial
     case steps=>
      refine⟨⟨⟨⟨⟨⟨⟨⟨trivial,?s0⟩,?s1⟩,?s2⟩,?s3⟩,?s4⟩,?s5⟩,?s6⟩,?s7⟩
      case s0=>
       intro done a w hS h0 hd hn hO hN
       have o0:a.tmps[0]?=some (.pointer (some ⟨c,0,none⟩)):=outs hO 0 rfl
       refine ah rfl (.pointer (some ⟨c,0,none⟩)) w rfl (by go_simp) ⟨_,rfl,rfl,by simpa[h0] using hS,trivial⟩
      case s1=>
       intro done a w hS h0 hd hn hO hN
       have o4:a.tmps[4]?=some (.pointer (some ⟨b4,0,none⟩)):=outs hO 4 rfl
       have hq:=eZ w b4 hS.s hr.1
       refine ah rfl (.agg (ak r g)) w rfl (by simp[execOp,Act.eval,o4,hq,Result.andThen]) ⟨_,rfl,rfl,by simpa[h0] using hS,trivial⟩
      case s2=>
       intro done a w hS h0 hd hn hO hN
       have o2:a.tmps[2]?=some (.slice (some ⟨q,0,none⟩) xs.length xs.length):=outs hO 2 rfl
       refine ah rfl (.slice (some ⟨q,0,none⟩) xs.length xs.length) w rfl (by go_simp) ⟨_,rfl,rfl,by simpa[h0] using hS,trivial⟩
      case s3=>
       intro done a w hS h0 hd hn hO hN
       have kT:a.tmps[10]?=some (.int .i64 (kx:Int)):=outs hO 10 rfl
       refine ah rfl (.int .i64 (kx:Int)) w rfl (by go_simp) ⟨_,rfl,rfl,by simpa[h0] using hS,trivial⟩
      case s4=>
       intro done a w hS h0 hd hn hO hN
       obtain⟨v2,g2,r2⟩:=aj hN 2 28
       obtain rfl:v2=.slice (some ⟨q,0,none⟩) xs.length xs.length:=r2
       obtain⟨v3,g3,r3⟩:=aj hN 3 29
       obtain rfl:v3=.int .i64 (kx:Int):=r3
       refine ah rfl (.pointer (some ⟨q,kx,none⟩)) w rfl (by go_simp) ⟨_,rfl,rfl,by simpa[h0] using hS,trivial⟩
      case s5=>
       intro done a w hS h0 hd hn hO hN
       obtain⟨v4,g4,r4⟩:=aj hN 4 30
       obtain rfl:v4=.pointer (some ⟨q,kx,none⟩):=r4
       have hc:w.cell? ⟨q,kx,none⟩=some (.int .i64 x):=HX.out w hS
       refine ah rfl (.int .i64 x) w rfl (by go_simp) ⟨_,rfl,rfl,by simpa[h0] using hS,trivial⟩
      case s6=>
       intro done a w hS h0 hd hn hO hN
       have o9:a.tmps[9]?=some (.int .i64 (ix:Int)):=outs hO 9 rfl
       refine ah rfl (.int .i64 (ix:Int)) w rfl (by go_simp) ⟨_,rfl,rfl,by simpa[h0] using hS,trivial⟩
      case s7=>
       intro done a w hS h0 hd hn hO hN
       obtain⟨v0,g0,r0⟩:=aj hN 0 26
       obtain rfl:v0=.pointer (some ⟨c,0,none⟩):=r0
       obtain⟨v1,g1,r1⟩:=aj hN 1 27
       obtain rfl:v1=.agg (ak r g):=r1
       obtain⟨v5,g5,r5⟩:=aj hN 5 31
       obtain rfl:v5=.int .i64 x:=r5
       obtain⟨v6,g6,r6⟩:=aj hN 6 32
       obtain rfl:v6=.int .i64 (ix:Int):=r6
       refine aR rfl rfl 56 [.tmp 26,.tmp 27,.tmp 31,.tmp 32] #[29,27,43,3] rfl [.pointer (some ⟨c,0,none⟩),.agg (ak r g),.int .i64 x,.int .i64 (ix:Int)] (by simp[Act.eval,g0,g1,g5,g6]) (enters_of Tryz.func56 (by kernel_rfl) rfl) (Calls.mono (KF.out w hS) ?_)
       rintro e w1 ⟨rfl,hb⟩
       refine⟨_,rfl,_,rfl,rfl,?_,trivial⟩
       have h9:=hS.later hb
       simpa[h0] using h9
     case fin=>
      intro vs done w hdone hS hR
      have e7:vs 7=.bool ff:=hR 7 (by decide)
      have HS:=show Hid (RX w0 w c (.slice p t.length cp) t b4 r g q xs) from hS
      simp only[bg,Act.put,List.setIfInBounds_toArray,List.set_cons_zero,List.set_cons_succ,e7]
      clear hS hR hdone e7
      generalize vs 0=x0,vs 1=x1,vs 2=x2,vs 3=x3,vs 4=x4,vs 5=x5,vs 6=x6
      cases ff with
      | true=>
       obtain rfl:A=some (x,(ix:Int)):=HT.out rfl
       have c9:w.cell? ⟨q,kx,none⟩=some (.int .i64 x):=HX.out w HS.out
       clear HT HF KF HX HE HN Vp Vq H0
       go_wp2_with fail
       exact bodyPost_ret (dZ rfl _ _) rfl ⟨rfl,HS.out.au⟩
      | false=>
       have HA2:=show Hid (A=(jS t r g xs ix (kx+1) ++ iq t r g xs (ix+1)).head?) from HF.out rfl
       clear HT HF KF HX
       go_wp2_with fail
       go_roundw
       case rel=>exact⟨kx+1,by omega,by go_num,HS,HA2⟩
       case measure=>first|(simp[intOf];done)|(simp[intOf];omega)
    ·have hge:¬ (kx:Int)<(xs.length:Int):=by omega
     have Y6:=show Hid (A=(iq t r g xs (ix+1)).head?) from by
      obtain rfl:kx=xs.length:=by omega
      rw[HA2.out,HN.out ix]
      rfl
     clear HA2
     go_wp2_with fail
     go_roundw
     case rel=>exact⟨ix+1,by omega,by go_num,HK,Y6⟩
     case measure=>first|(simp[intOf];done)|(simp[intOf];omega)
  ·have hge:¬ (ix:Int)<(t.length:Int):=by omega
   obtain rfl:A=none:=by
    obtain rfl:ix=t.length:=by omega
    rw[HA.out,HE.out]
    rfl
   clear HA
   go_wp2_with fail
   exact bodyPost_ret (dZ rfl _ _) rfl ⟨rfl,HQ.out.au⟩
structure RY (w W:World) (c:Nat) (u:Value) (t:List Nd) (b3:Nat) (r:List Nat) (g:Int) (q:Nat):Prop where
 tr:Tr W c u t
 s:aX W b3 r g
 q:rA W 0 q (.slice (some ⟨q,0,none⟩) 6 6) dP
 au:Below w.heap.size w W
structure RZ (w W:World) (c:Nat) (u:Value) (t:List Nd) (b3:Nat) (r:List Nat) (g:Int) (q i qq:Nat) (xs:List Int):Prop where
 y:RY w W c u t b3 r g q
 c:W.cell? ⟨q,i,none⟩=some (.slice (some ⟨qq,0,none⟩) xs.length xs.length)
 x:Cl W qq (iE xs) 43
section
variable {w W W':World} {c:Nat} {u:Value} {t:List Nd} {b3:Nat} {r:List Nat} {g:Int} {q i qq:Nat} {xs:List Int}
theorem RY.later (h:RY w W c u t b3 r g q) (hb:Below W.heap.size W W'):RY w W' c u t b3 r g q:=⟨h.tr.later hb,h.s.later hb h.s.lt,h.q.later hb,h.au.trans (hb.mono h.au.size)⟩
theorem RZ.later (h:RZ w W c u t b3 r g q i qq xs) (hb:Below W.heap.size W W'):RZ w W' c u t b3 r g q i qq xs:=⟨h.y.later hb,(World.cell?_of_block (a:=⟨q,i,none⟩) (hb.block q h.y.q.lt)).trans h.c,h.x.later hb⟩
theorem RZ.drew (h:RZ w W c u t b3 r g q i qq xs):RZ w W.drew c u t b3 r g q i qq xs:=h.later ((Below.refl _ _).drew)
end
theorem Hw (w0:World) {c:Nat} {u:Value} {t:List Nd} (hT:Tr w0 c u t) {r:List Nat} (hr:Ok r) (g:Int) :
 Calls Tryz.prog 35 #[.pointer (some ⟨c,0,none⟩),.agg (ak r g)] w0 fun e w'=>e=.returned (.tuple #[.int .i64 ((dP.flatMap (fl t r g)).head?.getD (14,0)).1,.int .i64 ((dP.flatMap (fl t r g)).head?.getD (14,0)).2])/\Below w0.heap.size w0 w':=by
 have hl:=hr.1
 obtain⟨AA,hA⟩:∃ A,A=(dP.flatMap (fl t r g)).head?:=⟨_,rfl⟩
 rw[<- hA]
 have H0:=show Hid (AA=((dP.drop 0).flatMap (fl t r g)).head?) from hA
 have HE:=show Hid (((dP.drop 6).flatMap (fl t r g)).head?=none) from(rfl:((dP.drop 6).flatMap (fl t r g)).head?=none)
 have HST:=show Hid (∀ i,i<6->(dP.drop i).flatMap (fl t r g)=fl t r g (dP.getD i []) ++ (dP.drop (i+1)).flatMap (fl t r g)) from fun i hi=>by
  have h6:i<dP.length:=hi
  rw[List.drop_eq_getElem_cons h6,List.flatMap_cons]
  have e:dP.getD i []=dP[i]:=by simp[List.getD,h6]
  rw[e]
 have Vr:=show Hid (∀ W:World,Below w0.heap.size w0 W->Tr W c u t) from fun W hb=>hT.later hb
 obtain⟨p,cp,hu,hc1,hc2,hat⟩:=hT.row.gT.at
 clear hA hT hat
 subst hu
 go_enter Tryz.func35,Tryz.ntmps35
 go_wp2_with (refine aI 27 _ rfl _ rfl rfl ?_)
 intro w1 b3 hn1
 have H1:=show Hid (dz w0 w1 b3 r g) from⟨hn1.blk,hn1.au,hn1.ge⟩
 clear hn1
 go_wp2_with (refine fB rfl 1 _ rfl [1] (by simp[execOp,Act.eval,jc,Result.andThen,iE]) (by decide) ?_)
 intro w2 v0 h0 hb0
 go_wp2_with (refine fB rfl 1 _ rfl [2] (by simp[execOp,Act.eval,jc,Result.andThen,iE]) (by decide) ?_)
 intro w3 v1 h1 hb1
 go_wp2_with (refine fB rfl 5 _ rfl [3,4,5,6,7] (by simp[execOp,Act.eval,EH,Result.andThen,iE]) (by decide) ?_)
 intro w4 v2 h2 hb2
 go_wp2_with (refine fB rfl 1 _ rfl [8] (by simp[execOp,Act.eval,jc,Result.andThen,iE]) (by decide) ?_)
 intro w5 v3 h3 hb3
 go_wp2_with (refine fB rfl 1 _ rfl [9] (by simp[execOp,Act.eval,jc,Result.andThen,iE]) (by decide) ?_)
 intro w6 v4 h4 hb4
 go_wp2_with (refine fB rfl 1 _ rfl [10] (by simp[execOp,Act.eval,jc,Result.andThen,iE]) (by decide) ?_)
 intro w7 v5 h5 hb5
 have HB:=show Hid (Below w1.heap.size w1 w7) from(((((hb0.trans (hb1.mono (hb0.size))).trans (hb2.mono (Nat.le_trans (hb0.size) hb1.size))).trans (hb3.mono (Nat.le_trans (Nat.le_trans (hb0.size) hb1.size) hb2.size))).trans (hb4.mono (Nat.le_trans (Nat.le_trans (Nat.le_trans (hb0.size) hb1.size) hb2.size) hb3.size))).trans (hb5.mono (Nat.le_trans (Nat.le_trans (Nat.le_trans (Nat.le_trans (hb0.size) hb1.size) hb2.size) hb3.size) hb4.size)))
 have R0:=show Hid (kV w7 w1.heap.size v0 [1]) from((((((h0.later hb1).later hb2).later hb3).later hb4).later hb5)).mono (Nat.le_refl _)
 have R1:=show Hid (kV w7 w1.heap.size v1 [2]) from(((((h1.later hb2).later hb3).later hb4).later hb5)).mono (hb0.size)
 have R2:=show Hid (kV w7 w1.heap.size v2 [3,4,5,6,7]) from((((h2.later hb3).later hb4).later hb5)).mono (Nat.le_trans (hb0.size) hb1.size)
 have R3:=show Hid (kV w7 w1.heap.size v3 [8]) from(((h3.later hb4).later hb5)).mono (Nat.le_trans (Nat.le_trans (hb0.size) hb1.size) hb2.size)
 have R4:=show Hid (kV w7 w1.heap.size v4 [9]) from((h4.later hb5)).mono (Nat.le_trans (Nat.le_trans (Nat.le_trans (hb0.size) hb1.size) hb2.size) hb3.size)
 have R5:=show Hid (kV w7 w1.heap.size v5 [10]) from(h5).mono (Nat.le_trans (Nat.le_trans (Nat.le_trans (Nat.le_trans (hb0.size) hb1.size) hb2.size) hb3.size) hb4.size)
 clear h0 hb0 h1 hb1 h2 hb2 h3 hb3 h4 hb4 h5 hb5
 obtain⟨q0,rfl,-,-,-⟩:=R0.out
 obtain⟨q1,rfl,-,-,-⟩:=R1.out
 obtain⟨q2,rfl,-,-,-⟩:=R2.out
 obtain⟨q3,rfl,-,-,-⟩:=R3.out
 obtain⟨q4,rfl,-,-,-⟩:=R4.out
 obtain⟨q5,rfl,-,-,-⟩:=R5.out
 have hq:=Ch w7 q0 q1 q2 q3 q4 q5 1 1 5 1 1 1
 simp only[List.length_cons,List.length_nil,Nat.zero_add,Nat.reduceAdd] at R0 R1 R2 R3 R4 R5 |-
 go_wp2_with (simp only[hq])
 have hn:=aZ w7 #[.slice (some ⟨q0,0,none⟩) 1 1,.slice (some ⟨q1,0,none⟩) 1 1,.slice (some ⟨q2,0,none⟩) 5 5,.slice (some ⟨q3,0,none⟩) 1 1,.slice (some ⟨q4,0,none⟩) 1 1,.slice (some ⟨q5,0,none⟩) 1 1] 120
 have hbN:=aS HB.out hn
 have HY:=show Hid (RY w0 (w7.alloc (.cells #[.slice (some ⟨q0,0,none⟩) 1 1,.slice (some ⟨q1,0,none⟩) 1 1,.slice (some ⟨q2,0,none⟩) 5 5,.slice (some ⟨q3,0,none⟩) 1 1,.slice (some ⟨q4,0,none⟩) 1 1,.slice (some ⟨q5,0,none⟩) 1 1] 120)) c (.slice p t.length cp) t b3 r g w7.heap.size) from
  ⟨Vr.out _ (H1.out.au.trans (hbN.mono H1.out.au.size)),H1.out.s.later hbN H1.out.s.lt,⟨rfl,by simp,Nat.zero_le _,bR 6 ⟨⟨⟨⟨⟨⟨trivial,⟨_,Cl.cell hn.blk 0,(R0.out.later hn.au).mono (Nat.zero_le _)⟩⟩,⟨_,Cl.cell hn.blk 1,(R1.out.later hn.au).mono (Nat.zero_le _)⟩⟩,⟨_,Cl.cell hn.blk 2,(R2.out.later hn.au).mono (Nat.zero_le _)⟩⟩,⟨_,Cl.cell hn.blk 3,(R3.out.later hn.au).mono (Nat.zero_le _)⟩⟩,⟨_,Cl.cell hn.blk 4,(R4.out.later hn.au).mono (Nat.zero_le _)⟩⟩,⟨_,Cl.cell hn.blk 5,(R5.out.later hn.au).mono (Nat.zero_le _)⟩⟩⟩,H1.out.au.trans (hbN.mono H1.out.au.size)⟩
 clear hn hbN HB R0 R1 R2 R3 R4 R5 H1 Vr hq
 generalize w7.heap.size=q at *
 generalize w7.alloc (.cells #[.slice (some ⟨q0,0,none⟩) 1 1,.slice (some ⟨q1,0,none⟩) 1 1,.slice (some ⟨q2,0,none⟩) 5 5,.slice (some ⟨q3,0,none⟩) 1 1,.slice (some ⟨q4,0,none⟩) 1 1,.slice (some ⟨q5,0,none⟩) 1 1] 120)=w8 at *
 go_loopw [7,8,9,10] (fun v _ _ _ wr=>∃ i:Nat,i<=6/\v=.int .i64 (i:Int)/\Hid (RY w0 wr c (.slice p t.length cp) t b3 r g q)/\Hid (AA=((dP.drop i).flatMap (fl t r g)).head?)) (fun v _ _ _ _=>6 - (intOf v).toNat)
 case atStart=>exact⟨0,by omega,rfl,HY,H0⟩
 case round=>
  obtain⟨ix,hi,rfl,HQ,HA⟩:=hrel
  clear HY
  by_cases hlt:ix<6
  ·have sV:(ix:Int)<6:=by omega
   obtain⟨rv,hc,qq,wG,hx,hx1,_⟩:=HQ.out.q.row ix hlt
   subst wG
   have hone:AA=(fl t r g (dP.getD ix []) ++ (dP.drop (ix+1)).flatMap (fl t r g)).head?:=by rw[HA.out,HST.out ix hlt]
   generalize dP.getD ix []=xs at *
   have HK:=show Hid (RZ w0 wr c (.slice p t.length cp) t b3 r g q ix qq xs) from⟨HQ.out,hc,hx⟩
   have KF:=show Hid (∀ W:World,RZ w0 W c (.slice p t.length cp) t b3 r g q ix qq xs->Calls Tryz.prog 54 #[.pointer (some ⟨c,0,none⟩),.agg (ak r g),.slice (some ⟨qq,0,none⟩) xs.length xs.length] W fun e w'=>e=.returned (.tuple #[.int .i64 ((fl t r g xs).head?.getD (0,0)).1,.int .i64 ((fl t r g xs).head?.getD (0,0)).2,.bool (fl t r g xs).head?.isSome])/\Below W.heap.size W w') from fun W h=>Hu W h.y.tr hr g qq xs h.x hx1
   have HT:=show Hid (∀ z,(fl t r g xs).head?=some z->AA=some z) from fun z h=>by
    rw[hone,List.head?_append,h]
    rfl
   have HF:=show Hid ((fl t r g xs).head?=none->AA=((dP.drop (ix+1)).flatMap (fl t r g)).head?) from fun h=>by
    rw[hone,List.head?_append,h]
    rfl
   clear hone HA HQ hc hx hx1
   generalize (fl t r g xs).head?=A at *
   go_wp2_with fail
   refine bC (by kernel_rfl) [some 25,some 26,some 27,some 28,some 29,some 30,some 31,some 24,some 32,some 33,some 34,some 8,some 9,some 10] [[],[],[],[],[2,3],[4],[0,1,5],[6],[7],[7],[7],[8],[9],[10]] (by kernel_rfl) (fun i v w=>match i with | 0=>v=.pointer (some ⟨c,0,none⟩) | 1=>v=.agg (ak r g) | 2=>v=.slice (some ⟨q,0,none⟩) 6 6 | 3=>v=.int .i64 (ix:Int) | 4=>v=.pointer (some ⟨q,ix,none⟩) | 5=>v=.slice (some ⟨qq,0,none⟩) xs.length xs.length | 6=>v=.tuple #[.int .i64 (A.getD (0,0)).1,.int .i64 (A.getD (0,0)).2,.bool A.isSome] | 7=>v=.tuple #[.int .i64 (A.getD (0,0)).1,.int .i64 (A.getD (0,0)).2,.bool A.isSome] | 8=>v=.int .i64 (A.getD (0,0)).1 | 9=>v=.int .i64 (A.getD (0,0)).2 | 10=>v=.bool A.isSome | 11=>v=.int .i64 (A.getD (0,0)).1 | 12=>v=.int .i64 (A.getD (0,0)).2 | 13=>v=.bool A.isSome | _=>True) (fun _ W=>RZ w0 W c (.slice p t.length cp) t b3 r g q ix qq xs) (fun _ _=>True) ?hle (HK.out.drew) (bR 14 ?steps) ?fin
   case hle=>
    intro i v w w1 hl h
    match i,h with
    | 0,h=>exact h
    | 1,h=>exact h
    | 2,h=>exact h
    | 3,h=>exact h
    | 4,h=>exact h
    | 5,h=>exact h
    | 6,h=>exact h
    | 7,h=>exact h
    | 8,h=>exact h
    | 9,h=>exact h
    | 10,h=>exact h
    | 11,h=>exact h
    | 12,h=>exact h
    | 13,h=>exact h
    | _+14,h=>trivial
   case steps=>
    refine⟨⟨⟨⟨⟨⟨⟨⟨⟨⟨⟨⟨⟨⟨trivial,?s0⟩,?s1⟩,?s2⟩,?s3⟩,?s4⟩,?s5⟩,?s6⟩,?s7⟩,?s8⟩,?s9⟩,?s10⟩,?s11⟩,?s12⟩,?s13⟩
    case s0=>
     intro done a w hS h0 hd hn hO hN
     have o0:a.tmps[0]?=some (.pointer (some ⟨c,0,none⟩)):=outs hO 0 rfl
     refine ah rfl (.pointer (some ⟨c,0,none⟩)) w rfl (by go_simp) ⟨_,rfl,rfl,by simpa[h0] using hS,trivial⟩
    case s1=>
     intro done a w hS h0 hd hn hO hN
     have o3:a.tmps[3]?=some (.pointer (some ⟨b3,0,none⟩)):=outs hO 3 rfl
     have hq:=eZ w b3 hS.y.s hr.1
     refine ah rfl (.agg (ak r g)) w rfl (by simp[execOp,Act.eval,o3,hq,Result.andThen]) ⟨_,rfl,rfl,by simpa[h0] using hS,trivial⟩
    case s2=>
     intro done a w hS h0 hd hn hO hN
     have o6:a.tmps[6]?=some (.slice (some ⟨q,0,none⟩) 6 6):=outs hO 6 rfl
     refine ah rfl (.slice (some ⟨q,0,none⟩) 6 6) w rfl (by go_simp) ⟨_,rfl,rfl,by simpa[h0] using hS,trivial⟩
    case s3=>
     intro done a w hS h0 hd hn hO hN
     have o7:a.tmps[7]?=some (.int .i64 (ix:Int)):=outs hO 7 rfl
     refine ah rfl (.int .i64 (ix:Int)) w rfl (by go_simp) ⟨_,rfl,rfl,by simpa[h0] using hS,trivial⟩
    case s4=>
     intro done a w hS h0 hd hn hO hN
     obtain⟨v2,g2,r2⟩:=aj hN 2 27
     obtain rfl:v2=.slice (some ⟨q,0,none⟩) 6 6:=r2
     obtain⟨v3,g3,r3⟩:=aj hN 3 28
     obtain rfl:v3=.int .i64 (ix:Int):=r3
     refine ah rfl (.pointer (some ⟨q,ix,none⟩)) w rfl (by go_simp) ⟨_,rfl,rfl,by simpa[h0] using hS,trivial⟩
    case s5=>
     intro done a w hS h0 hd hn hO hN
     obtain⟨v4,g4,r4⟩:=aj hN 4 29
     obtain rfl:v4=.pointer (some ⟨q,ix,none⟩):=r4
     have hc:w.cell? ⟨q,ix,none⟩=some (.slice (some ⟨qq,0,none⟩) xs.length xs.length):=hS.c
     refine ah rfl (.slice (some ⟨qq,0,none⟩) xs.length xs.length) w rfl (by go_simp) ⟨_,rfl,rfl,by simpa[h0] using hS,trivial⟩
    case s6=>
     intro done a w hS h0 hd hn hO hN
     obtain⟨v0,g0,r0⟩:=aj hN 0 25
     obtain rfl:v0=.pointer (some ⟨c,0,none⟩):=r0
     obtain⟨v1,g1,r1⟩:=aj hN 1 26
     obtain rfl:v1=.agg (ak r g):=r1
     obtain⟨v5,g5,r5⟩:=aj hN 5 30
     obtain rfl:v5=.slice (some ⟨qq,0,none⟩) xs.length xs.length:=r5
     refine aR rfl rfl 54 [.tmp 25,.tmp 26,.tmp 30] #[29,27,120] rfl [.pointer (some ⟨c,0,none⟩),.agg (ak r g),.slice (some ⟨qq,0,none⟩) xs.length xs.length] (by simp[Act.eval,g0,g1,g5]) (enters_of Tryz.func54 (by kernel_rfl) rfl) (Calls.mono (KF.out w hS) ?_)
     rintro e w1 ⟨rfl,hb⟩
     refine⟨_,rfl,_,rfl,rfl,?_,trivial⟩
     have h9:=hS.later hb
     simpa[h0] using h9
    case s7=>
     intro done a w hS h0 hd hn hO hN
     obtain⟨v6,g6,r6⟩:=aj hN 6 31
     obtain rfl:v6=.tuple #[.int .i64 (A.getD (0,0)).1,.int .i64 (A.getD (0,0)).2,.bool A.isSome]:=r6
     refine ah rfl (.tuple #[.int .i64 (A.getD (0,0)).1,.int .i64 (A.getD (0,0)).2,.bool A.isSome]) w rfl (by go_simp) ⟨_,rfl,rfl,by simpa[h0] using hS,trivial⟩
    case s8=>
     intro done a w hS h0 hd hn hO hN
     obtain⟨v7,g7,r7⟩:=aj hN 7 24
     obtain rfl:v7=.tuple #[.int .i64 (A.getD (0,0)).1,.int .i64 (A.getD (0,0)).2,.bool A.isSome]:=r7
     refine ah rfl (.int .i64 (A.getD (0,0)).1) w rfl (by go_simp) ⟨_,rfl,rfl,by simpa[h0] using hS,trivial⟩
    case s9=>
     intro done a w hS h0 hd hn hO hN
     obtain⟨v7,g7,r7⟩:=aj hN 7 24
     obtain rfl:v7=.tuple #[.int .i64 (A.getD (0,0)).1,.int .i64 (A.getD (0,0)).2,.bool A.isSome]:=r7
     refine ah rfl (.int .i64 (A.getD (0,0)).2) w rfl (by go_simp) ⟨_,rfl,rfl,by simpa[h0] using hS,trivial⟩
    case s10=>
     intro done a w hS h0 hd hn hO hN
     obtain⟨v7,g7,r7⟩:=aj hN 7 24
     obtain rfl:v7=.tuple #[.int .i64 (A.getD (0,0)).1,.int .i64 (A.getD (0,0)).2,.bool A.isSome]:=r7
     refine ah rfl (.bool A.isSome) w rfl (by go_simp) ⟨_,rfl,rfl,by simpa[h0] using hS,trivial⟩
    case s11=>
     intro done a w hS h0 hd hn hO hN
     obtain⟨v8,g8,r8⟩:=aj hN 8 32
     obtain rfl:v8=.int .i64 (A.getD (0,0)).1:=r8
     refine ah rfl (.int .i64 (A.getD (0,0)).1) w rfl (by go_simp) ⟨_,rfl,rfl,by simpa[h0] using hS,trivial⟩
    case s12=>
     intro done a w hS h0 hd hn hO hN
     obtain⟨v9,g9,r9⟩:=aj hN 9 33
     obtain rfl:v9=.int .i64 (A.getD (0,0)).2:=r9
     refine ah rfl (.int .i64 (A.getD (0,0)).2) w rfl (by go_simp) ⟨_,rfl,rfl,by simpa[h0] using hS,trivial⟩
    case s13=>
     intro done a w hS h0 hd hn hO hN
     obtain⟨v10,g10,bM⟩:=aj hN 10 34
     obtain rfl:v10=.bool A.isSome:=bM
     refine ah rfl (.bool A.isSome) w rfl (by go_simp) ⟨_,rfl,rfl,by simpa[h0] using hS,trivial⟩
   case fin=>
    intro vs done w hdone hS hR
    have e11:vs 11=.int .i64 (A.getD (0,0)).1:=hR 11 (by decide)
    have e12:vs 12=.int .i64 (A.getD (0,0)).2:=hR 12 (by decide)
    have e13:vs 13=.bool A.isSome:=hR 13 (by decide)
    have HS:=show Hid (RZ w0 w c (.slice p t.length cp) t b3 r g q ix qq xs) from hS
    simp only[bg,Act.put,List.setIfInBounds_toArray,List.set_cons_zero,List.set_cons_succ,e11,e12,e13]
    clear hS hR hdone e11 e12 e13
    generalize vs 0=x0,vs 1=x1,vs 2=x2,vs 3=x3,vs 4=x4,vs 5=x5,vs 6=x6,vs 7=x7,vs 8=x8,vs 9=x9,vs 10=x10
    cases A with
    | some z=>
     obtain rfl:AA=some z:=HT.out z rfl
     clear HT HF KF HE HST H0
     simp only[Option.getD_some,Option.isSome_some]
     go_wp2_with fail
     go_ret2
     exact⟨rfl,HS.out.y.au⟩
    | none=>
     have HA2:=show Hid (AA=((dP.drop (ix+1)).flatMap (fl t r g)).head?) from HF.out rfl
     clear HT HF KF
     simp only[Option.getD_none,Option.isSome_none]
     go_wp2_with fail
     go_roundw
     case rel=>exact⟨ix+1,by omega,by go_num,HS.out.y,HA2⟩
     case measure=>first|(simp[intOf];done)|(simp[intOf];omega)
  ·have hge:¬ (ix:Int)<6:=by omega
   obtain rfl:AA=none:=by
    obtain rfl:ix=6:=by omega
    rw[HA.out,HE.out]
   clear HA
   go_wp2_with fail
   go_ret2
   exact⟨rfl,HQ.out.au⟩
theorem yG (w0:World) {c:Nat} {u:Value} {t:List Nd} (hT:Tr w0 c u t) {r:List Nat} (hr:Ok r) (g:Int) (hq:eB t r g=true) :
 Calls Tryz.prog 35 #[.pointer (some ⟨c,0,none⟩),.agg (ak r g)] w0 fun e w'=>e=.returned (.tuple #[.int .i64 (aL t r g).1,.int .i64 (aL t r g).2])/\Below w0.heap.size w0 w':=by
 have e:aL t r g=(dP.flatMap (fl t r g)).head?.getD (14,0):=by
  unfold aL
  rw[yj hT.ok hr hq dP (fun u hu=>List.mem_append_left _ hu)]
 rw[e]
 exact Hw w0 hT hr g
theorem Tw (a b:List (Int × Int)):i1 (a ++ b)=i1 a ++ i1 b:=by simp[i1]
theorem Tx (a b:List (Int × Int)):i2 (a ++ b)=i2 a ++ i2 b:=by simp[i2]
structure CW (w0 w1 W:World) (b3:Nat) (r:List Nat) (g:Int) (v1 v2:Value) (l1 l2:List (Int × Int)):Prop where
 s:aX w1 b3 r g
 b1:Below w0.heap.size w0 w1
 au:Below w1.heap.size w1 W
 o1:W.ownsRow w1.heap.size 43 1 v1 l1.length (i1 l1)
 o2:W.ownsRow w1.heap.size 3 1 v2 l2.length (i2 l2)
section
variable {w0 w1 W W':World} {b3:Nat} {r:List Nat} {g:Int} {v1 v2 v:Value} {l1 l2:List (Int × Int)}
theorem CW.later (h:CW w0 w1 W b3 r g v1 v2 l1 l2) (hb:Below W.heap.size W W'):CW w0 w1 W' b3 r g v1 v2 l1 l2:=⟨h.s,h.b1,h.au.trans (hb.mono h.au.size),iI h.o1 hb,iI h.o2 hb⟩
theorem CW.all (h:CW w0 w1 W b3 r g v1 v2 l1 l2):Below w0.heap.size w0 W:=h.b1.trans (h.au.mono h.b1.size)
theorem CW.seq (h:CW w0 w1 W b3 r g v1 v2 l1 l2):aX W b3 r g:=h.s.later h.au h.s.lt
theorem CW.ne (h:CW w0 w1 W b3 r g v1 v2 l1 l2):∀ k,v1.ownBlock=some k->v2.ownBlock≠some k:=fun k h1 h2=>by
 obtain⟨_,_,c1,e1⟩:=aT h.o1 k h1
 obtain⟨_,_,c2,e2⟩:=aT h.o2 k h2
 rw[e1] at e2
 simp at e2
theorem CW.Hy (h:CW w0 w1 W b3 r g v1 v2 l1 l2) {xs:List (Int × Int)} {m:Nat} (hm:xs.length=m) (ho:W'.ownsRow w1.heap.size 43 1 v (l1.length+m) (i1 l1 ++ i1 xs)) (hg:W.grownBy W' v1.ownBlock):CW w0 w1 W' b3 r g v v2 (l1 ++ xs) l2:=by
 refine⟨h.s,h.b1,h.au.grown hg h.au.size (fun k hk=>(aT h.o1 k hk).1),?_,bV h.o2 fun k hk=>hg.block k (aT h.o2 k hk).2.1 (fun e=>h.ne k e.symm hk)⟩
 rw[List.length_append,hm,Tw]
 exact ho
theorem CW.Hz (h:CW w0 w1 W b3 r g v1 v2 l1 l2) {xs:List (Int × Int)} {m:Nat} (hm:xs.length=m) (ho:W'.ownsRow w1.heap.size 3 1 v (l2.length+m) (i2 l2 ++ i2 xs)) (hg:W.grownBy W' v2.ownBlock):CW w0 w1 W' b3 r g v1 v l1 (l2 ++ xs):=by
 refine⟨h.s,h.b1,h.au.grown hg h.au.size (fun k hk=>(aT h.o2 k hk).1),bV h.o1 fun k hk=>hg.block k (aT h.o1 k hk).2.1 (fun e=>h.ne k hk e.symm),?_⟩
 rw[List.length_append,hm,Tx]
 exact ho
theorem CW.sl1 (h:CW w0 w1 W b3 r g v1 v2 l1 l2):∃ p c,v1=.slice p l1.length c:=by
 rcases h.o1.2 with ⟨rfl,h0⟩ | ⟨g,cap,cur,rfl,_⟩
 ·exact⟨_,_,by rw[h0]⟩
 ·exact⟨_,_,rfl⟩
theorem CW.sl2 (h:CW w0 w1 W b3 r g v1 v2 l1 l2):∃ p c,v2=.slice p l2.length c:=by
 rcases h.o2.2 with ⟨rfl,h0⟩ | ⟨g,cap,cur,rfl,_⟩
 ·exact⟨_,_,by rw[h0]⟩
 ·exact⟨_,_,rfl⟩
end
theorem nL (w:World) (cs:List Value) (T:TypeId):∀ (j:Nat) (u:Value),cs[j]?=some u->(w.alloc (.cells cs.toArray T)).cell? ((⟨w.heap.size,0,none⟩:Addr).add j)=some u:=fun j u hu=>by
 rw[Addr.add_lit,Nat.zero_add]
 have h:=Cl.cell (aZ w cs.toArray T).blk j
 rw[h]
 simpa using hu
theorem Ot (t:List Nd) (r:List Nat) (g:Int) (i:Nat):jS t r g [13] i 0=kK t r g i 13:=by
 unfold jS
 rw[List.drop_zero,List.flatMap_cons,List.flatMap_nil,List.append_nil]
theorem Kg (t:List Nd) (r:List Nat) (g:Int):∀ n i,n+i=t.length->(iq t r g [13] i).length<=n
 | 0,i,h=>by
  obtain rfl:i=t.length:=by omega
  rw[y7]
  simp
 | n+1,i,h=>by
  rw[Ck t r g [13] (by omega),Ot,List.length_append]
  have:=Kg t r g n (i+1) (by omega)
  have:(kK t r g i 13).length<=1:=by unfold kK;split <;> simp
  omega
theorem Dh (w0:World) {c:Nat} {u:Value} {t:List Nd} (hT:Tr w0 c u t) {r:List Nat} (hr:Ok r) (g:Int) (hq:eB t r g=true) :
 Calls Tryz.prog 55 #[.pointer (some ⟨c,0,none⟩),.agg (ak r g)] w0 fun e w'=>∃ v1 v2,e=.returned (.tuple #[v1,v2])/\w'.ownsRow w0.heap.size 43 1 v1 (dV t r g).length (i1 (dV t r g))/\w'.ownsRow w0.heap.size 3 1 v2 (dV t r g).length (i2 (dV t r g))/\Below w0.heap.size w0 w':=by
 have hl:=hr.1
 have hlen:=hT.ok.len
 obtain⟨TA,hi1,Na,Nb,Nc⟩:=info_parts N7
 obtain⟨TB,hi2,Gi,Nf,Gj⟩:=info_parts Bt.NA
 obtain⟨Z,hZ⟩:∃ Z,Z=dV t r g:=⟨_,rfl⟩
 have HZ0:=show Hid (Z=if (aL t r g).1=14 then (if (aB t g).k=4 then [(11,g),(12,g)] else []) ++ iq t r g [13] 0 else []) from hZ.trans (Cm hT.ok hr hq)
 rw[<- hZ]
 clear hZ
 have hg0:∃ gn:Nat,g=gn/\gn<t.length:=by
  unfold eB at hq
  simp only[Bool.and_eq_true] at hq
  have hg:=Fm.bJ.1 hq.2
  exact⟨g.toNat,by omega,by omega⟩
 have KA:=show Hid (∀ W:World,Below w0.heap.size w0 W->Calls Tryz.prog 35 #[.pointer (some ⟨c,0,none⟩),.agg (ak r g)] W fun e w'=>e=.returned (.tuple #[.int .i64 (aL t r g).1,.int .i64 (aL t r g).2])/\Below W.heap.size W w') from fun W hb=>yG W (hT.later hb) hr g hq
 have KK:=show Hid (∀ W:World,Below w0.heap.size w0 W->Calls Tryz.prog 100 #[.pointer (some ⟨c,0,none⟩),.int .i64 g] W fun e w'=>e=.returned (.int .i64 (aB t g).k)/\w'=W) from fun W hb=>by
  obtain⟨gn,hgn,hgl⟩:=hg0
  rw[hgn,aY hgl]
  exact fV W (hT.later hb) gn hgl
 have KF:=show Hid (∀ (W:World) (m:Int),Below w0.heap.size w0 W->Calls Tryz.prog 56 #[.pointer (some ⟨c,0,none⟩),.agg (ak r g),.int .i64 13,.int .i64 m] W fun e w'=>e=.returned (.bool (findF t r g 13 m))/\Below W.heap.size W w') from fun W m hb=>fK W (hT.later hb) hr g 13 m
 have Vs:=show Hid (∀ W:World,Below w0.heap.size w0 W->W.cell? ⟨c,0,none⟩=some u) from fun W hb=>(hT.later hb).c0
 have wP:=show Hid (∀ i,i<t.length->iq t r g [13] i=kK t r g i 13 ++ iq t r g [13] (i+1)) from fun i hi=>by rw[Ck t r g [13] hi,Ot]
 have Vt:=show Hid (iq t r g [13] t.length=[]) from y7 t r g [13]
 have Vu:=show Hid (Z.length<=1026) from(by
  have h1:=Kg t r g t.length 0 (by omega)
  rw[HZ0.out]
  split
  ·rw[List.length_append]
   split <;> simp <;> omega
  ·simp:Z.length<=1026)
 obtain⟨p,cp,hu,hc1,hc2,hat⟩:=hT.row.gT.at
 clear hT hat hq hg0
 subst hu
 generalize aL t r g=af at *
 generalize (aB t g).k=kk at *
 go_enter Tryz.func55,Tryz.ntmps55
 go_wp2_with (refine aI 27 _ rfl _ rfl rfl ?_)
 intro w1 b3 hn1
 have H1:=show Hid (dz w0 w1 b3 r g) from⟨hn1.blk,hn1.au,hn1.ge⟩
 clear hn1
 go_wp2_with (refine aJ _ _ rfl b3 rfl H1.out.s hl rfl ?_)
 refine Calls.mono (KA.out _ H1.out.au) ?_
 rintro e w2 ⟨rfl,hb2⟩
 have H2:=show Hid (CW w0 w1 w2 b3 r g (.slice none 0 0) (.slice none 0 0) [] []) from⟨H1.out.s,H1.out.au,hb2,World.ownsRow_nil _ _ _ _,World.ownsRow_nil _ _ _ _⟩
 clear H1 hb2 KA
 by_cases fD:af.1=14
 ·have Wv:(af.1 != 14)=false:=by simpa using fD
  rw[if_pos fD] at HZ0
  clear fD
  have c16:w2.cell? ⟨b3,16,none⟩=some (.int .i64 g):=by
   have h:=Cl.cell (T:=27) H2.out.seq 16
   rw[h]
   rw[ak,List.getElem?_toArray,List.getElem?_append_right (by simp[Bt.bK,hl])]
   simp[Bt.bK,hl]
  go_wp2_with fail
  refine Calls.mono (KK.out _ H2.out.all) ?_
  rintro e w3 ⟨rfl,hw3⟩
  subst w3
  clear KK
  by_cases h4:kk=4
  ·have Y7:(kk == 4)=true:=by simpa using h4
   rw[if_pos h4] at HZ0
   have HZ:=show Hid (Z=[(11,g),(12,g)] ++ iq t r g [13] 0) from HZ0.out
   clear h4 HZ0
   go_wp2_with (at_builtin;refine wpList_append_own _ rfl (.tmp 24) (.tmp 25) 120 rfl w1.heap.size 43 TA (.int .i64 0) 1 8 Tryz.underlying120 hi1 Na Nb Nc rfl (by decide) _ 0 (i1 []) rfl (iI H2.out.o1 (av w2 _)) ⟨w2.heap.size,0,none⟩ 2 2 [.int .i64 11,.int .i64 12] rfl rfl (nL w2 [.int .i64 11,.int .i64 12] _) (by simp[Value.oneCell']) (by unfold maxLen;omega) (by omega) (by have h9:=H2.out.au.size;simp only[World.size_alloc];omega) ?_)
   intro v4 w4 ho hg _
   have H4:=show Hid _ from(H2.out.later (av w2 _)).Hy (xs:=[(11,g),(12,g)]) rfl ho hg
   clear ho hg H2
   obtain⟨p4,c4,TD⟩:=H4.out.sl1
   rw[List.nil_append] at TD
   simp only[List.length_cons,List.length_nil,Nat.zero_add,Nat.reduceAdd] at TD
   subst TD
   have c16:w4.cell? ⟨b3,16,none⟩=some (.int .i64 g):=by
    have h:=Cl.cell (T:=27) H4.out.seq 16
    rw[h]
    rw[ak,List.getElem?_toArray,List.getElem?_append_right (by simp[Bt.bK,hl])]
    simp[Bt.bK,hl]
   go_wp2_with (at_builtin;refine wpList_append_own _ rfl (.tmp 27) (.tmp 32) 44 rfl w1.heap.size 3 TB (.int .i64 0) 1 8 Tryz.underlying44 hi2 Gi Nf Gj rfl (by decide) _ 0 (i2 []) rfl (iI H4.out.o2 (av w4 _)) ⟨w4.heap.size,0,none⟩ 2 2 [.int .i64 g,.int .i64 g] rfl rfl (nL w4 [.int .i64 g,.int .i64 g] _) (by simp[Value.oneCell']) (by unfold maxLen;omega) (by omega) (by have h9:=H4.out.au.size;simp only[World.size_alloc];omega) ?_)
   intro v5 w5 ho hg _
   have H5:=show Hid _ from(H4.out.later (av w4 _)).Hz (xs:=[(11,g),(12,g)]) rfl ho hg
   clear ho hg H4
   obtain⟨p5,c5,yH⟩:=H5.out.sl2
   rw[List.nil_append] at yH
   simp only[List.length_cons,List.length_nil,Nat.zero_add,Nat.reduceAdd] at yH
   subst yH
   simp only[List.nil_append,List.length_cons,List.length_nil,Nat.zero_add,Nat.reduceAdd] at H5
   clear c16
   have BI:=show Hid (Z=[(11,g),(12,g)] ++ iq t r g [13] 0) from HZ.out
   clear HZ
   go_wp2_with fail
   go_loopw [8,9,10] (fun v1 v2 n wr=>∃ (i:Nat) (l:List (Int × Int)),i<=t.length/\n=.int .i64 (i:Int)/\Hid (CW w0 w1 wr b3 r g v1 v2 l l)/\Hid (Z=l ++ iq t r g [13] i)) (fun _ _ n _=>t.length - (intOf n).toNat)
   case atStart=>exact⟨0,[(11,g),(12,g)],by omega,rfl,H5,BI⟩
   case round=>
    obtain⟨ix,l,hi,rfl,HQ,HA⟩:=hrel
    clear H5 BI
    have c0:=Vs.out wr HQ.out.all
    by_cases hlt:ix<t.length
    ·have sV:(ix:Int)<(t.length:Int):=by omega
     have K:=show Hid _ from KF.out wr (ix:Int) HQ.out.all
     have hone:=wP.out ix hlt
     have hll:l.length<=1026:=by
      have h1:=congrArg List.length HA.out
      have h2:=Vu.out
      rw[List.length_append] at h1
      omega
     unfold kK at hone
     have sq:=HQ.out.seq
     cases hf:findF t r g 13 (ix:Int) with
     | false=>
      rw[hf,if_neg Bool.false_ne_true,List.nil_append] at hone
      have HA2:=show Hid (Z=l ++ iq t r g [13] (ix+1)) from(by rw[HA.out,hone]:Z=l ++ iq t r g [13] (ix+1))
      rw[hf] at K
      clear hf HA hone hll
      go_wp2_with (refine aJ _ _ rfl b3 rfl sq hl rfl ?_)
      refine Calls.mono K.out ?_
      rintro e w9 ⟨rfl,jh⟩
      have H9:=show Hid _ from HQ.out.later jh
      clear jh HQ K sq
      go_wp2_with fail
      go_roundw
      case rel=>exact⟨ix+1,l,by omega,by go_num,H9,HA2⟩
      case measure=>first|(simp[intOf];done)|(simp[intOf];omega)
     | true=>
      rw[hf,if_pos rfl] at hone
      have HA2:=show Hid (Z=(l ++ [(13,(ix:Int))]) ++ iq t r g [13] (ix+1)) from(by rw[HA.out,hone,List.append_assoc]:Z=(l ++ [(13,(ix:Int))]) ++ iq t r g [13] (ix+1))
      rw[hf] at K
      clear hf HA hone
      go_wp2_with (refine aJ _ _ rfl b3 rfl sq hl rfl ?_)
      refine Calls.mono K.out ?_
      rintro e w9 ⟨rfl,jh⟩
      have H9:=show Hid _ from HQ.out.later jh
      clear jh HQ K sq
      obtain⟨p8,c8,TF⟩:=H9.out.sl1
      obtain⟨p9,c9,TG⟩:=H9.out.sl2
      subst TF
      subst TG
      go_wp2_with (at_builtin;refine wpList_append_own _ rfl (.tmp 47) (.tmp 48) 120 rfl w1.heap.size 43 TA (.int .i64 0) 1 8 Tryz.underlying120 hi1 Na Nb Nc rfl (by decide) _ l.length (i1 l) rfl (iI H9.out.o1 (av w9 _)) ⟨w9.heap.size,0,none⟩ 1 1 [.int .i64 13] rfl rfl (nL w9 [.int .i64 13] _) (by simp[Value.oneCell']) (by unfold maxLen;omega) (by omega) (by have h9:=H9.out.au.size;simp only[World.size_alloc];omega) ?_)
      intro v10 eY ho hg _
      have rF:=show Hid _ from(H9.out.later (av w9 _)).Hy (xs:=[(13,(ix:Int))]) rfl ho hg
      clear ho hg H9
      obtain⟨Y8,c10,Di⟩:=rF.out.sl1
      rw[List.length_append,List.length_singleton] at Di
      subst Di
      go_wp2_with (at_builtin;refine wpList_append_own _ rfl (.tmp 50) (.tmp 52) 44 rfl w1.heap.size 3 TB (.int .i64 0) 1 8 Tryz.underlying44 hi2 Gi Nf Gj rfl (by decide) _ l.length (i2 l) rfl (iI rF.out.o2 (av eY _)) ⟨eY.heap.size,0,none⟩ 1 1 [.int .i64 (ix:Int)] rfl rfl (nL eY [.int .i64 (ix:Int)] _) (by simp[Value.oneCell']) (by unfold maxLen;omega) (by omega) (by have h9:=rF.out.au.size;simp only[World.size_alloc];omega) ?_)
      intro v11 jI ho hg _
      have Kh:=show Hid _ from(rF.out.later (av eY _)).Hz (xs:=[(13,(ix:Int))]) rfl ho hg
      clear ho hg rF
      obtain⟨Y9,c11,Dj⟩:=Kh.out.sl2
      rw[List.length_append,List.length_singleton] at Dj
      subst Dj
      go_wp2_with fail
      go_roundw
      case rel=>exact⟨ix+1,l ++ [(13,(ix:Int))],by omega,by go_num,Kh,HA2⟩
      case measure=>first|(simp[intOf];done)|(simp[intOf];omega)
    ·have hge:¬ (ix:Int)<(t.length:Int):=by omega
     obtain rfl:Z=l:=by
      obtain rfl:ix=t.length:=by omega
      rw[HA.out,Vt.out,List.append_nil]
     clear HA
     go_wp2_with fail
     go_ret2
     exact⟨_,_,rfl,iF HQ.out.o1 HQ.out.b1.size,iF HQ.out.o2 HQ.out.b1.size,HQ.out.all⟩
  ·have Y7:(kk == 4)=false:=by simpa using h4
   rw[if_neg h4] at HZ0
   have HZ:=show Hid (Z=[] ++ iq t r g [13] 0) from HZ0.out
   clear h4 HZ0 c16
   have BI:=show Hid (Z=[] ++ iq t r g [13] 0) from HZ.out
   clear HZ
   go_wp2_with fail
   go_loopw [8,9,10] (fun v1 v2 n wr=>∃ (i:Nat) (l:List (Int × Int)),i<=t.length/\n=.int .i64 (i:Int)/\Hid (CW w0 w1 wr b3 r g v1 v2 l l)/\Hid (Z=l ++ iq t r g [13] i)) (fun _ _ n _=>t.length - (intOf n).toNat)
   case atStart=>exact⟨0,[],by omega,rfl,H2,BI⟩
   case round=>
    obtain⟨ix,l,hi,rfl,HQ,HA⟩:=hrel
    clear H2 BI
    have c0:=Vs.out wr HQ.out.all
    by_cases hlt:ix<t.length
    ·have sV:(ix:Int)<(t.length:Int):=by omega
     have K:=show Hid _ from KF.out wr (ix:Int) HQ.out.all
     have hone:=wP.out ix hlt
     have hll:l.length<=1026:=by
      have h1:=congrArg List.length HA.out
      have h2:=Vu.out
      rw[List.length_append] at h1
      omega
     unfold kK at hone
     have sq:=HQ.out.seq
     cases hf:findF t r g 13 (ix:Int) with
     | false=>
      rw[hf,if_neg Bool.false_ne_true,List.nil_append] at hone
      have HA2:=show Hid (Z=l ++ iq t r g [13] (ix+1)) from(by rw[HA.out,hone]:Z=l ++ iq t r g [13] (ix+1))
      rw[hf] at K
      clear hf HA hone hll
      go_wp2_with (refine aJ _ _ rfl b3 rfl sq hl rfl ?_)
      refine Calls.mono K.out ?_
      rintro e w9 ⟨rfl,jh⟩
      have H9:=show Hid _ from HQ.out.later jh
      clear jh HQ K sq
      go_wp2_with fail
      go_roundw
      case rel=>exact⟨ix+1,l,by omega,by go_num,H9,HA2⟩
      case measure=>first|(simp[intOf];done)|(simp[intOf];omega)
     | true=>
      rw[hf,if_pos rfl] at hone
      have HA2:=show Hid (Z=(l ++ [(13,(ix:Int))]) ++ iq t r g [13] (ix+1)) from(by rw[HA.out,hone,List.append_assoc]:Z=(l ++ [(13,(ix:Int))]) ++ iq t r g [13] (ix+1))
      rw[hf] at K
      clear hf HA hone
      go_wp2_with (refine aJ _ _ rfl b3 rfl sq hl rfl ?_)
      refine Calls.mono K.out ?_
      rintro e w9 ⟨rfl,jh⟩
      have H9:=show Hid _ from HQ.out.later jh
      clear jh HQ K sq
      obtain⟨p8,c8,TF⟩:=H9.out.sl1
      obtain⟨p9,c9,TG⟩:=H9.out.sl2
      subst TF
      subst TG
      go_wp2_with (at_builtin;refine wpList_append_own _ rfl (.tmp 47) (.tmp 48) 120 rfl w1.heap.size 43 TA (.int .i64 0) 1 8 Tryz.underlying120 hi1 Na Nb Nc rfl (by decide) _ l.length (i1 l) rfl (iI H9.out.o1 (av w9 _)) ⟨w9.heap.size,0,none⟩ 1 1 [.int .i64 13] rfl rfl (nL w9 [.int .i64 13] _) (by simp[Value.oneCell']) (by unfold maxLen;omega) (by omega) (by have h9:=H9.out.au.size;simp only[World.size_alloc];omega) ?_)
      intro v10 eY ho hg _
      have rF:=show Hid _ from(H9.out.later (av w9 _)).Hy (xs:=[(13,(ix:Int))]) rfl ho hg
      clear ho hg H9
      obtain⟨Y8,c10,Di⟩:=rF.out.sl1
      rw[List.length_append,List.length_singleton] at Di
      subst Di
      go_wp2_with (at_builtin;refine wpList_append_own _ rfl (.tmp 50) (.tmp 52) 44 rfl w1.heap.size 3 TB (.int .i64 0) 1 8 Tryz.underlying44 hi2 Gi Nf Gj rfl (by decide) _ l.length (i2 l) rfl (iI rF.out.o2 (av eY _)) ⟨eY.heap.size,0,none⟩ 1 1 [.int .i64 (ix:Int)] rfl rfl (nL eY [.int .i64 (ix:Int)] _) (by simp[Value.oneCell']) (by unfold maxLen;omega) (by omega) (by have h9:=rF.out.au.size;simp only[World.size_alloc];omega) ?_)
      intro v11 jI ho hg _
      have Kh:=show Hid _ from(rF.out.later (av eY _)).Hz (xs:=[(13,(ix:Int))]) rfl ho hg
      clear ho hg rF
      obtain⟨Y9,c11,Dj⟩:=Kh.out.sl2
      rw[List.length_append,List.length_singleton] at Dj
      subst Dj
      go_wp2_with fail
      go_roundw
      case rel=>exact⟨ix+1,l ++ [(13,(ix:Int))],by omega,by go_num,Kh,HA2⟩
      case measure=>first|(simp[intOf];done)|(simp[intOf];omega)
    ·have hge:¬ (ix:Int)<(t.length:Int):=by omega
     obtain rfl:Z=l:=by
      obtain rfl:ix=t.length:=by omega
      rw[HA.out,Vt.out,List.append_nil]
     clear HA
     go_wp2_with fail
     go_ret2
     exact⟨_,_,rfl,iF HQ.out.o1 HQ.out.b1.size,iF HQ.out.o2 HQ.out.b1.size,HQ.out.all⟩
 ·have Wv:(af.1 != 14)=true:=by simpa using fD
  rw[if_neg fD] at HZ0
  obtain rfl:Z=[]:=HZ0.out
  clear fD HZ0
  go_wp2_with fail
  go_ret2
  exact⟨_,_,rfl,World.ownsRow_nil _ _ _ _,World.ownsRow_nil _ _ _ _,H2.out.all⟩
end Go.Proofs.YtkejippimkjjaaaGreatDoor

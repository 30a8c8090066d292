import Derived.Test.YtkpbpecikibohaaGreatDoorYQ13
import Derived.Test.YtkpbpecikibohaaGreatDoorYQ14
import Derived.Test.YtkpbpecikibohaaGreatDoorRG1
set_option linter.unusedSimpArgs false
set_option maxRecDepth 100000
set_option maxHeartbeats 8000000
namespace Go.Proofs.YtkpbpecikibohaaGreatDoor.Ya
open Go.RowKit Go.Maps
open Fm (Nd)
open Ty (Tm Hs pR)
open Bt.Bs (Ok)
theorem WM (w:World):(zeroValue 51).run Tryz.prog w=.ok (.agg (Bt.aG Bt.Bs.zero)) w:=by kernel_rfl
theorem WO (w:World):(zeroValue 53).run Tryz.prog w=.ok (.agg (au Bt.Bs.zero 0)) w:=by kernel_rfl
theorem XC (w:World) (g:Int):(Instr.build 53 #[(1,.int .i64 g)]).run Tryz.prog w=.ok (.agg (au Bt.Bs.zero g)) w:=by kernel_rfl
theorem E5 {ops:Array Oper} {rest:List Oper} {o:Oper} {a:Act} {Q:Exit->Act->World->Prop} {w:World} (hg:o.guard=none) (x:Operand) (hop:o.op=Op.build 53 #[(1,x)]) (g:Int) (hx:a.eval x=.int .i64 g) (hK:wpList Tryz.prog ops Q rest (a.put o.dst (.agg (au Bt.Bs.zero g))) w):wpList Tryz.prog ops Q (o :: rest) a w:=by
 refine wpList_plain hg fun K' hK' => ?_
 have hrun:=XC w g
 unfold Oper.wp
 simp[execOp,hop,hx,hrun,Result.andThen]
 exact hK' _ _ hK
def uD (W:World) (r':List Nat) (done:Nat->Bool) (a:Act) (w:World):Prop :=
 Below W.heap.size W w/\(done 11=true->done 12=false->∃ q,a.tmps[14]?=some (.pointer (some ⟨q,0,none⟩))/\W.heap.size<=q/\Cl w q (Bt.aG Bt.Bs.zero) 51) /\
  (done 12=true->∃ q,a.tmps[14]?=some (.pointer (some ⟨q,0,none⟩))/\W.heap.size<=q/\Cl w q (Bt.aG r') 51)
theorem JR {done:Nat->Bool} {i j:Nat} (h:i≠j):(j == i || done j)=done j:=by
 have:(j == i)=false:=by simpa using fun e:j=i=>h e.symm
 rw[this,Bool.false_or]
theorem uD.grow {W w w':World} {r':List Nat} {done:Nat->Bool} {a:Act} {i:Nat} (h:uD W r' done a w) (hb:Below w.heap.size w w') (h11:i≠11) (h12:i≠12) {d:Option Tmp} (hd:d≠some 14) (v:Value):uD W r' (fun j=>j == i || done j) (a.put d v) w':=by
 obtain⟨h1,h2,h3⟩:=h
 refine⟨h1.trans (hb.mono h1.size),fun e1 e2 => ?_,fun e => ?_⟩
 ·obtain⟨q,a1,a2,a3⟩:=h2 ((JR (done:=done) h11).symm.trans e1) ((JR (done:=done) h12).symm.trans e2)
  exact⟨q,(jU a d v hd).trans a1,a2,Cl.later a3 hb⟩
 ·obtain⟨q,a1,a2,a3⟩:=h3 ((JR (done:=done) h12).symm.trans e)
  exact⟨q,(jU a d v hd).trans a1,a2,Cl.later a3 hb⟩
theorem uD.pure {W w:World} {r':List Nat} {done:Nat->Bool} {a:Act} {i:Nat} (h:uD W r' done a w) (h11:i≠11) (h12:i≠12) {d:Option Tmp} (hd:d≠some 14) (v:Value):uD W r' (fun j=>j == i || done j) (a.put d v) w:=h.grow (Below.refl _ _) h11 h12 hd v
theorem uD.alloc {W w:World} {r':List Nat} {done:Nat->Bool} {a:Act} (h:uD W r' done a w) (hn:done 12=false) (hs:14<a.tmps.size):uD W r' (fun j=>j == 11 || done j) (a.put (some 14) (.pointer (some ⟨w.heap.size,0,none⟩))) (w.alloc (.cells (Bt.aG Bt.Bs.zero) 51)) :=
 ⟨h.1.trans ((ak w _).mono h.1.size),fun _ _=>⟨_,rD a _ hs,h.1.size,(bE w (Bt.aG Bt.Bs.zero) 51).blk⟩,fun e=>by
  have e:(12 == 11 || done 12)=true:=e
  rw[hn] at e
  cases e⟩
theorem uD.store {W w:World} {r':List Nat} {done:Nat->Bool} {a:Act} (h:uD W r' done a w) {q:Nat} (hq:a.tmps[14]?=some (.pointer (some ⟨q,0,none⟩))) (hg:W.heap.size<=q) (hc:Cl w q (Bt.aG Bt.Bs.zero) 51) (v:Value):uD W r' (fun j=>j == 12 || done j) (a.put none v) (w.setRow q (Bt.aG r')) :=
 ⟨below_setRow h.1 hg,fun _ e=>(by cases e),fun _=>⟨q,hq,hg,setRow_heap w q _ _ _ _ hc⟩⟩
theorem Qa {hs:Hs} {k:Nat} (h:k<hs.length) (r:List Nat):kE r (hs.take (k+1))=Bt.Bs.put (kE r (hs.take k)) hs[k].2.toNat:=by
 unfold kE
 rw[<- List.take_append_getElem h,List.foldl_append]
 rfl
structure WQ (w3 wr:World) (b:Nat) (r:List Nat) (g:Int):Prop where
 sq:bM wr b r g
 be:Below w3.heap.size w3 wr
 ge:w3.heap.size<=b
theorem Az (w:World) {rv:Value} {rs:List Nd} (hR:lH w rv rs) (hg:∀ n ∈ rs,Fm.good n) (hl:rs.length * 40<=140737488351232) (hv:rv=.slice none 0 0\/∃ a n c,rv=.slice (some a) n c)
 {hp:Option Addr} {hn hc:Nat} {hs:Hs} (hH:qC w w.heap.size (.slice hp hn hc) hs) (hG:uH hs)
 {sv:Value} {x:Tm} (hK:bg w w.heap.size x sv) (hX:Gt x) (id:Int) (hS:Std w) (hZ:Bt.Tz w) :
 Calls Tryz.prog 4 #[rv,.slice hp hn hc,bL x sv,.int .i64 id] w fun e w'=>e=.returned (.bool true)/\Below w.heap.size w w':=by
 obtain⟨sp,sn,sc,rfl⟩:=hK.form
 have hlen:hn=hs.length:=by
  obtain⟨p,c,hv,_⟩:=hH
  exact(Value.slice.inj hv).2.1
 subst hlen
 have hbig:hs.length<=5864062014639:=hH.choose_spec.choose_spec.2.1
 have KB:=show Hid (∀ W,Below w.heap.size w W->Calls Tryz.prog 5 #[rv] W fun e w'=>Lr W w' e (Fm.fr [] rs)) from fun W hW=>Oa W rv rs (hR.later hW) hg hl hv
 have KE:=show Hid (∀ W,Below w.heap.size w W->Calls Tryz.prog 6 #[] W fun e w'=>e=.returned (.bool true)/\Below W.heap.size W w') from fun W hW=>FJ W (hS.later hW)
 have KC:=show Hid (∀ W B M v t,Below w.heap.size w W->Tb W B M v t->Calls Tryz.prog 7 #[.pointer (some ⟨B,0,none⟩),.slice hp hs.length hc,bL x (.slice sp sn sc),.int .i64 id] W fun r w'=>r=.returned (.int .i64 (pR t hs x id).2)/\Below W.heap.size W w') from fun W B M v t hW hT=>pG W hT (hH.up hW) hG (hK.up hW) hX (hS.later hW) id
 have HZ:=show Hid (∀ W:World,Below w.heap.size w W->Bt.Tz W) from fun W hb=>Bt.iY hZ hb
 have LP:=show Hid (∀ t,Fm.Ok t->(pR t hs x id).2=0->(∀ h ∈ hs,Fm.has t h.2=true)/\eH t.length (kE Bt.Bs.zero hs,id)/\Val t (kE Bt.Bs.zero hs,id)) from fun t ht h=>Nu ht h
 have HI:=show Hid (∀ W,Below w.heap.size w W->qC W W.heap.size (.slice hp hs.length hc) hs) from fun W hW=>hH.up hW
 clear hR hg hl hv hH hG hK hX hS hZ
 unfold bL at KC |-
 obtain⟨nh,WR⟩:∃ nh,nh=hs.length:=⟨_,rfl⟩
 rw[<- WR] at KC HI hbig |-
 have HN:=show Hid (nh=hs.length) from WR
 clear WR
 generalize Fm.fr [] rs=ans at *
 generalize x.k=xk at *
 generalize x.n=xn at *
 generalize x.o=xo at *
 generalize x.f=xf at *
 go_enter Tryz.func4,Tryz.ntmps4
 go_wp2_with (refine aC 27 _ rfl _ rfl rfl ?_)
 intro w2 bx hn2
 have aA:=show Hid (Cl w2 bx #[.int .i64 xk,.string xn,.string xo,.int .i64 xf,.slice sp sn sc] 27/\Below w.heap.size w w2) from⟨hn2.blk,hn2.av⟩
 clear hn2
 go_wp2_with fail
 refine Calls.mono (KB.out w2 aA.out.2) ?_
 rintro e w3 (⟨h0,B,M,v,C,u,rfl,hP⟩ | ⟨h0,rfl,hb3⟩)
 case inr=>
  have KH:=show Hid _ from KE.out w3 (aA.out.2.trans (hb3.mono aA.out.2.size))
  have HB3:=show Hid (Below w.heap.size w w3) from aA.out.2.trans (hb3.mono aA.out.2.size)
  clear hb3 aA KB KE KC LP HI HN HZ
  go_wp2_with fail
  refine Calls.mono KH.out ?_
  rintro e w4 ⟨rfl,hb4⟩
  have jc:=show Hid (Below w.heap.size w w4) from HB3.out.trans (hb4.mono HB3.out.size)
  clear hb4 KH
  go_wp2_with fail
  go_ret
  exact⟨rfl,jc.out⟩
 obtain⟨a1,t⟩:=ans
 simp only at h0 hP
 subst h0
 have dS:=show Hid (Pair w2 w3 B M v C u t t) from hP
 have ji:=show Hid (Cl w3 bx #[.int .i64 xk,.string xn,.string xo,.int .i64 xf,.slice sp sn sc] 27/\Below w.heap.size w w3/\Below w.heap.size w w2) from⟨Cl.later aA.out.1 hP.av,aA.out.2.trans (hP.av.mono aA.out.2.size),aA.out.2⟩
 clear hP aA KB
 have Bf:=show Hid _ from KC.out w3 B M v t ji.out.2.1 dS.out.tb
 have WS:=show Hid _ from LP.out t dS.out.tb.ok
 clear KC LP
 generalize (pR t hs x id).2=cc at *
 go_wp2_with (refine fq 27 _ rfl bx rfl _ _ ji.out.1 rfl Tryz.underlying27 pV rfl ?_)
 refine Calls.mono Bf.out ?_
 rintro e w4 ⟨rfl,hb4⟩
 have sw:=show Hid (Pair w2 w4 B M v C u t t) from dS.out.later hb4
 have jc:=show Hid (Below w.heap.size w w4/\Below w.heap.size w w2) from⟨ji.out.2.1.trans (hb4.mono ji.out.2.1.size),ji.out.2.2⟩
 clear hb4 Bf dS ji
 by_cases hcc:cc=0
 ·subst hcc
  obtain⟨l1,l2,l3⟩:=WS.out rfl
  have WT:=show Hid (∀ h ∈ hs,Fm.has t h.2=true) from l1
  have hok:Ok (kE Bt.Bs.zero hs):=zR hs Bt.Bs.fH
  have QO:=show Hid _ from Te sw.out.tb.ok (s:=(kE Bt.Bs.zero hs,id)) hok l2 l3
  have hlt:=sw.out.tb.ok.len
  have nW:=show Hid (t.length<=1024) from hlt
  clear l1 l2 l3 WS hlt
  have h16:(kE Bt.Bs.zero hs).length=16:=hok.1
  have tC:=show Hid _ from hok
  clear hok
  go_wp2_with (first|(refine E5 rfl _ rfl _ rfl ?_)|(refine aN 53 rfl _ WO rfl ?_))
  intro w5 b12 fZ
  go_wp2_with (refine aQ 53 rfl rfl _ _ rfl b12 rfl (au Bt.Bs.zero id) rfl _ _ fZ.blk (by rw[wU,iM rfl]) (by rw[iM rfl,iM rfl]) (uK _ _) ?_)
  intro w6 hc6 pO
  have Qq:=show Hid (WQ w4 w6 b12 (kE Bt.Bs.zero (hs.take 0)) id) from⟨hc6,bR fZ.av pO fZ.ge,fZ.ge⟩
  clear fZ hc6 pO
  go_wp2_with fail
  go_loopw [13] (fun iv wr=>∃ k:Nat,k<=nh/\iv=.int .i64 (k:Int)/\Hid (WQ w4 wr b12 (kE Bt.Bs.zero (hs.take k)) id)) (fun iv _=>nh - (intOf iv).toNat)
  case atStart=>exact⟨0,by omega,rfl,Qq.out⟩
  case round=>
   obtain⟨k,hk,rfl,vB⟩:=hrel
   clear Qq
   have hbw:Below w.heap.size w wr:=jc.out.1.trans (vB.out.be.mono jc.out.1.size)
   by_cases hlt:k<nh
   ·have hki:(k:Int)<(nh:Int):=by omega
    have hkl:k<hs.length:=by rw[<- HN.out];exact hlt
    obtain⟨p0,c0,hv0,_,hat⟩:=HI.out wr hbw
    obtain⟨rfl,hx1,rfl⟩:=Value.slice.inj hv0
    clear hx1
    obtain⟨hb,ho,hbl,hpe,_,hcell⟩:=hat k hkl
    subst hpe
    have hfo:=Fm.dJ.1 (WT.out _ (List.getElem_mem hkl))
    have WU:=nW.out
    have HT2:=show Hid _ from Qa hkl Bt.Bs.zero
    have hok1:Ok (kE Bt.Bs.zero (hs.take k)):=zR _ Bt.Bs.fH
    obtain⟨fo,hfe⟩:∃ fo:Nat,hs[k].2=(fo:Int):=⟨hs[k].2.toNat,by omega⟩
    rw[hfe] at hcell hfo
    rw[hfe,Int.toNat_natCast] at HT2
    have KP:=show Hid (∀ W,Calls Tryz.prog 14 #[.agg (Bt.aG (kE Bt.Bs.zero (hs.take k))),.int .i64 (fo:Int)] W fun e w'=>e=.returned (.tuple #[.agg (Bt.aG (kE Bt.Bs.zero (hs.take (k+1)))),.int .i64 0])/\Below W.heap.size W w') from fun W=>(Bt.xZ W hok1 (fo:Int)).mono fun e w' h=>by
     rw[Bt.kH _ (show fo<1024 by omega)] at h
     rw[HT2.out]
     exact h
    have WV:(kE Bt.Bs.zero (hs.take k)).length=16:=hok1.1
    have JU:(kE Bt.Bs.zero (hs.take (k+1))).length=16:=(zR _ Bt.Bs.fH:Ok (kE Bt.Bs.zero (hs.take (k+1)))).1
    have Gu:=show Hid (wr.cell? ⟨hb,ho+k * 2+1,none⟩=some (.int .i64 (fo:Int))/\hb<wr.heap.size) from⟨hcell,hbl⟩
    clear HT2 hok1 hv0 hat hcell hbl hfe hfo WU HI
    generalize hr1:kE Bt.Bs.zero (hs.take k)=r at *
    generalize hr2:kE Bt.Bs.zero (hs.take (k+1))=r2 at *
    clear hr1
    go_wp2_with fail
    refine Cb (by kernel_rfl) [some 44,some 45,some 46,some 47,some 48,some 49,some 50,some 51,some 43,some 52,some 53,some 14,none,some 15] [[],[0],[],[],[2,3],[4],[5],[1,6],[7],[8],[8],[],[11,9],[10]] (by kernel_rfl) (fun ii vv=>match ii with | 0=>vv=.pointer (some ⟨b12,0,none⟩) | 1=>vv=.agg (Bt.aG r) | 2=>vv=.slice (some ⟨hb,ho,none⟩) nh hc | 3=>vv=.int .i64 (k:Int) | 4=>vv=.pointer (some ⟨hb,ho+k * 2,none⟩) | 5=>vv=.pointer (some ⟨hb,ho+k * 2+1,none⟩) | 6=>vv=.int .i64 (fo:Int) | 7=>vv=.tuple #[.agg (Bt.aG r2),.int .i64 0] | 8=>vv=.tuple #[.agg (Bt.aG r2),.int .i64 0] | 9=>vv=.agg (Bt.aG r2) | 10=>vv=.int .i64 0 | 13=>vv=.int .i64 0 | _=>True) (uD wr.drew r2) ⟨Below.refl _ _,fun e=>(by cases e),fun e=>(by cases e)⟩ (dL 14 ?steps) ?fin
    case steps=>
     refine⟨⟨⟨⟨⟨⟨⟨⟨⟨⟨⟨⟨⟨⟨trivial,?s0⟩,?s1⟩,?s2⟩,?s3⟩,?s4⟩,?s5⟩,?s6⟩,?s7⟩,?s8⟩,?s9⟩,?s10⟩,?s11⟩,?s12⟩,?s13⟩
     case s0=>
      intro done a w1 hS hd hnd hno hO hN
      have M0:a.tmps[12]?=some (.pointer (some ⟨b12,0,none⟩)):=outs hO 12 rfl
      exact ah rfl (.pointer (some ⟨b12,0,none⟩)) _ rfl (by go_simp) ⟨_,rfl,rfl,hS.pure (by decide) (by decide) (by decide) _⟩
     case s1=>
      intro done a w1 hS hd hnd hno hO hN
      obtain⟨v0,g0,r0⟩:=aj hN 0 44
      have e0:v0=.pointer (some ⟨b12,0,none⟩):=r0
      rw[e0] at g0
      have hq1:bM w1 b12 r id:=(show bM wr.drew b12 r id from vB.out.sq).later hS.1 (show bM wr.drew b12 r id from vB.out.sq).lt
      have hl:=Cc w1 b12 hq1 WV
      exact ah rfl (.agg (Bt.aG r)) _ rfl (by simp[execOp,Act.eval,g0,hl,Result.andThen]) ⟨_,rfl,rfl,hS.pure (by decide) (by decide) (by decide) _⟩
     case s2=>
      intro done a w1 hS hd hnd hno hO hN
      have o1:a.tmps[1]?=some (.slice (some ⟨hb,ho,none⟩) nh hc):=outs hO 1 rfl
      exact ah rfl (.slice (some ⟨hb,ho,none⟩) nh hc) _ rfl (by go_simp) ⟨_,rfl,rfl,hS.pure (by decide) (by decide) (by decide) _⟩
     case s3=>
      intro done a w1 hS hd hnd hno hO hN
      have YP:a.tmps[13]?=some (.int .i64 (k:Int)):=outs hO 13 rfl
      exact ah rfl (.int .i64 (k:Int)) _ rfl (by go_simp) ⟨_,rfl,rfl,hS.pure (by decide) (by decide) (by decide) _⟩
     case s4=>
      intro done a w1 hS hd hnd hno hO hN
      obtain⟨v2,g2,r2⟩:=aj hN 2 46
      have e2:v2=.slice (some ⟨hb,ho,none⟩) nh hc:=r2
      rw[e2] at g2
      obtain⟨v3,g3,r3⟩:=aj hN 3 47
      have e3:v3=.int .i64 (k:Int):=r3
      rw[e3] at g3
      exact ah rfl (.pointer (some ⟨hb,ho+k * 2,none⟩)) _ rfl (by go_simp) ⟨_,rfl,rfl,hS.pure (by decide) (by decide) (by decide) _⟩
     case s5=>
      intro done a w1 hS hd hnd hno hO hN
      obtain⟨v4,g4,r4⟩:=aj hN 4 48
      have e4:v4=.pointer (some ⟨hb,ho+k * 2,none⟩):=r4
      rw[e4] at g4
      exact ah rfl (.pointer (some ⟨hb,ho+k * 2+1,none⟩)) _ rfl (by go_simp) ⟨_,rfl,rfl,hS.pure (by decide) (by decide) (by decide) _⟩
     case s6=>
      intro done a w1 hS hd hnd hno hO hN
      obtain⟨v5,g5,r5⟩:=aj hN 5 49
      have e5:v5=.pointer (some ⟨hb,ho+k * 2+1,none⟩):=r5
      rw[e5] at g5
      have hc6:w1.cell? ⟨hb,ho+k * 2+1,none⟩=some (.int .i64 (fo:Int)):=(hS.1.cell (p:=⟨hb,ho+k * 2+1,none⟩) Gu.out.2).trans Gu.out.1
      exact ah rfl (.int .i64 (fo:Int)) _ rfl (by go_simp) ⟨_,rfl,rfl,hS.pure (by decide) (by decide) (by decide) _⟩
     case s7=>
      intro done a w1 hS hd hnd hno hO hN
      obtain⟨v1,g1,r1⟩:=aj hN 1 45
      have e1:v1=.agg (Bt.aG r):=r1
      rw[e1] at g1
      obtain⟨v6,g6,r6⟩:=aj hN 6 50
      have e6:v6=.int .i64 (fo:Int):=r6
      rw[e6] at g6
      refine aW rfl rfl 14 [.tmp 45,.tmp 50] #[51,3] rfl [.agg (Bt.aG r),.int .i64 (fo:Int)] (by simp[Act.eval,g1,g6]) (enters_of Tryz.func14 (by kernel_rfl) rfl) (Calls.mono (KP.out w1) ?_)
      rintro e w9 ⟨rfl,hb9⟩
      exact⟨_,rfl,_,rfl,rfl,hS.grow hb9 (by decide) (by decide) (by decide) _⟩
     case s8=>
      intro done a w1 hS hd hnd hno hO hN
      obtain⟨v7,g7,r7⟩:=aj hN 7 51
      have e7:v7=.tuple #[.agg (Bt.aG r2),.int .i64 0]:=r7
      rw[e7] at g7
      exact ah rfl (.tuple #[.agg (Bt.aG r2),.int .i64 0]) _ rfl (by go_simp) ⟨_,rfl,rfl,hS.pure (by decide) (by decide) (by decide) _⟩
     case s9=>
      intro done a w1 hS hd hnd hno hO hN
      obtain⟨v8,g8,r8⟩:=aj hN 8 43
      have e8:v8=.tuple #[.agg (Bt.aG r2),.int .i64 0]:=r8
      rw[e8] at g8
      exact ah rfl (.agg (Bt.aG r2)) _ rfl (by go_simp) ⟨_,rfl,rfl,hS.pure (by decide) (by decide) (by decide) _⟩
     case s10=>
      intro done a w1 hS hd hnd hno hO hN
      obtain⟨v8,g8,r8⟩:=aj hN 8 43
      have e8:v8=.tuple #[.agg (Bt.aG r2),.int .i64 0]:=r8
      rw[e8] at g8
      exact ah rfl (.int .i64 0) _ rfl (by go_simp) ⟨_,rfl,rfl,hS.pure (by decide) (by decide) (by decide) _⟩
     case s11=>
      intro done a w1 hS hd hnd hno hO hN
      exact ah rfl (.pointer (some ⟨w1.heap.size,0,none⟩)) (w1.alloc (.cells (Bt.aG Bt.Bs.zero) 51)) rfl (by simp[execOp,Instr.alloc,WM,go_sem,Result.andThen];rfl) ⟨_,rfl,trivial,hS.alloc (hno 12 (by decide)) (by rw[hO.sz];simp)⟩
     case s12=>
      intro done a w1 hS hd hnd hno hO hN
      obtain⟨v9,g9,r9⟩:=aj hN 9 52
      have e9:v9=.agg (Bt.aG r2):=r9
      rw[e9] at g9
      obtain⟨q,hq1,hq2,hq3⟩:=hS.2.1 (hnd 11 (by decide)) hd
      have hrun:(Instr.storeAt 51 (.pointer (some ⟨q,0,none⟩)) (.agg (Bt.aG r2))).run Tryz.prog w1=.ok () (w1.setRow q (Bt.aG r2)):=by
       simp only[Instr.storeAt,Instr.sureAddr,Sem.run_bind,Sem.run_pure,Result.andThen]
       exact run_storeVar_row w1 q 51 51 _ _ hq3 (by rw[Bt.qK,Bt.gG JU]) (by rw[Bt.gG JU];rfl) (by simp[Bt.aG,Value.oneCell'])
      exact oP rfl (w1.setRow q (Bt.aG r2)) rfl (by simp[execOp,Act.eval,hq1,g9,hrun,Result.andThen]) ⟨undef,rfl,trivial,hS.store hq1 hq2 hq3 _⟩
     case s13=>
      intro done a w1 hS hd hnd hno hO hN
      obtain⟨v10,g10,bS⟩:=aj hN 10 53
      have e10:v10=.int .i64 0:=bS
      rw[e10] at g10
      exact ah rfl (.int .i64 0) _ rfl (by go_simp) ⟨_,rfl,rfl,hS.pure (by decide) (by decide) (by decide) _⟩
    case fin=>
     intro vs done w8 hall hS hV
     have e13:vs 13=.int .i64 0:=hV 13 (by decide)
     obtain⟨q,hq1,hq2,hq3⟩:=hS.2.2 (hall 12 (by decide))
     rw[pW _ vs 0 _ (lV _ (by decide)) 11 14 rfl (by simp)] at hq1
     have e11:vs 11=.pointer (some ⟨q,0,none⟩):=Option.some.inj hq1
     have H8:=show Hid (Cl w8 q (Bt.aG r2) 51/\bM w8 b12 r id/\Below w4.heap.size w4 w8) from⟨hq3,(show bM wr.drew b12 r id from vB.out.sq).later hS.1 (show bM wr.drew b12 r id from vB.out.sq).lt,vB.out.be.drew.trans (hS.1.mono vB.out.be.drew.size)⟩
     have HG:=show Hid (w4.heap.size<=b12) from vB.out.ge
     clear hq1 hq2 hq3 hS hV hall vB Gu KP hbw
     simp only[bn,Act.put,List.setIfInBounds_toArray,List.set_cons_zero,List.set_cons_succ,e13,e11]
     go_wp2_with (first|(refine fq 51 _ rfl q rfl _ _ H8.out.1 rfl Bt.l6 (by rw[Bt.qK,Bt.gG JU]) rfl ?_)|(refine xE _ rfl rfl _ _ rfl b12 rfl rfl H8.out.2.1 WV JU ?_))
     intro w9 Y4 kD
     have VQ:=show Hid (WQ w4 w9 b12 r2 id) from⟨Y4,bR H8.out.2.2 kD HG.out,HG.out⟩
     clear Y4 kD H8 HG
     go_wp2_with fail
     go_roundw
     case rel=>exact⟨k+1,by omega,by go_num,by rw[hr2];exact VQ.out⟩
     case measure=>first|(simp[intOf];done)|(simp[intOf];omega)
   ·have hki:¬ (k:Int)<(nh:Int):=by omega
    have hke:k=nh:=by omega
    have Y5:=show Hid (bM wr b12 (kE Bt.Bs.zero hs) id) from by
     have:=vB.out.sq
     rw[hke,HN.out,List.take_length] at this
     exact this
    have WW:=show Hid (Pair w2 wr B M v C u t t) from sw.out.later vB.out.be
    have KR:=show Hid _ from Tc wr WW.out.tb (HZ.out wr hbw) (s:=(kE Bt.Bs.zero hs,id)) tC.out 4096
    clear vB sw HI HN WT hbw hke
    generalize kE Bt.Bs.zero hs=lf at *
    generalize kK t (lf,id) 4096=F at *
    go_wp2_with (refine dU _ _ rfl b12 rfl Y5.out h16 rfl ?_)
    refine Calls.mono KR.out ?_
    rintro e w8 ⟨sv,rfl,⟨kvs,hSt⟩,hA⟩
    obtain⟨p,c,rfl⟩:=hSt.form
    obtain⟨v8,Y6⟩:=WW.out.stepT hA
    have WX:=show Hid (Below w.heap.size w w8) from jc.out.2.trans (Y6.av.mono jc.out.2.size)
    clear hSt hA Y6 WW KR Y5
    generalize F.st.length=sl at *
    go_wp2_with (refine aN 58 rfl _ Ie rfl ?_)
    intro w9 b16 QS
    go_wp2_with (refine aQ 58 rfl rfl _ _ rfl b16 rfl _ rfl _ _ QS.blk (by rw[uV];rfl) rfl (pq ..) ?_)
    intro DC WY hk10
    have yJ:=show Hid (Below w.heap.size w DC) from WX.out.trans ((bR QS.av hk10 QS.ge).mono WX.out.size)
    have c0:DC.cell? ⟨b16,0,none⟩=some (.bool F.pv):=WY.cell 0
    have KH:=show Hid _ from KE.out DC yJ.out
    clear QS WY hk10 WX KE HZ
    rcases QO.out with ⟨h1,h2⟩ | h1 | h1
    ·rw[h2] at c0
     generalize F.err=fe at *
     subst h1
     clear QO h2
     go_wp2_with fail
     refine Calls.mono KH.out ?_
     rintro e DI ⟨rfl,rC⟩
     have E8:=show Hid (Below w.heap.size w DI) from yJ.out.trans (rC.mono yJ.out.size)
     clear rC KH c0
     go_wp2_with fail
     go_ret
     exact⟨rfl,E8.out⟩
    ·generalize F.err=fe at *
     subst h1
     clear QO c0
     go_wp2_with fail
     refine Calls.mono KH.out ?_
     rintro e DI ⟨rfl,rC⟩
     have E8:=show Hid (Below w.heap.size w DI) from yJ.out.trans (rC.mono yJ.out.size)
     clear rC KH
     go_wp2_with fail
     go_ret
     exact⟨rfl,E8.out⟩
    ·generalize F.err=fe at *
     subst h1
     clear QO c0
     go_wp2_with fail
     refine Calls.mono KH.out ?_
     rintro e DI ⟨rfl,rC⟩
     have E8:=show Hid (Below w.heap.size w DI) from yJ.out.trans (rC.mono yJ.out.size)
     clear rC KH
     go_wp2_with fail
     go_ret
     exact⟨rfl,E8.out⟩
 ·have hcb:(cc != 0)=true:=by simpa using hcc
  have KH:=show Hid _ from KE.out w4 jc.out.1
  clear WS KE HI HN HZ hcc
  go_wp2_with fail
  refine Calls.mono KH.out ?_
  rintro e w5 ⟨rfl,hb5⟩
  have jN:=show Hid (Below w.heap.size w w5) from jc.out.1.trans (hb5.mono jc.out.1.size)
  clear hb5 KH
  go_wp2_with fail
  go_ret
  exact⟨rfl,jN.out⟩
end Go.Proofs.YtkpbpecikibohaaGreatDoor.Ya

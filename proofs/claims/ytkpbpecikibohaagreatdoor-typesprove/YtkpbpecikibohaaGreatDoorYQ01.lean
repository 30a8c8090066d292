import Derived.Test.YtkpbpecikibohaaGreatDoorYQ00
import Derived.Test.YtkpbpecikibohaaGreatDoorFG2
set_option linter.unusedSimpArgs false
set_option maxRecDepth 100000
set_option maxHeartbeats 4000000
namespace Go.Proofs.YtkpbpecikibohaaGreatDoor.Ya
open Go.RowKit Go.Maps
open Fm (Nd)
open Ty (Tm mV vF)
theorem Q5 (x:Tm) (m:Nat):mV x m=vF x.sub m 0+1:=by cases x;rw[mV];rfl
theorem Q6 (w:World):(binOp .neq 197 (.map none) (.map none)).run Tryz.prog w=.ok (.bool false) w:=by kernel_rfl
theorem look_nil (a:Addr) (w:World):(Instr.lookup 197 (.map none) (.pointer (some a)) true).run Tryz.prog w=.ok (.tuple #[.int .i64 0,.bool false]) w:=by kernel_rfl
theorem yP:∀ (sz:Nat) (x:Tm),x.rk<sz->∀ (w:World) (L:Nat) (sv:Value),bg w L x sv->Gt x->L<=w.heap.size->∀ m:Nat,1<=m->m<=1025 ->
 Calls Tryz.prog 78 #[sv,.int .i64 (m:Int),.map none] w fun e w'=>e=.returned (.int .i64 (mV x m:Int))/\Below w.heap.size w w'
 | 0,_,h,_,_,_,_,_,_,_,_,_=>absurd h (Nat.not_lt_zero _)
 | sz+1,x,hsz,w,L,sv,hK,hG,hL,m,h1,h2=>by
  have KC:=show Hid (∀ y ∈ x.sub,∀ (W:World) (kv:Value),bg W L y kv->L<=W.heap.size->∀ q:Nat,1<=q->q<=1025->Calls Tryz.prog 78 #[kv,.int .i64 (q:Int),.map none] W fun e w'=>e=.returned (.int .i64 (mV y q:Int))/\Below W.heap.size W w') from
   fun y hy W kv hk hl q a b=>yP sz y (by have:=Ty.Cz hy;omega) W L kv hk (hG.sub.2 y hy) hl q a b
  obtain⟨p,c,rfl,hat⟩:=hK.subs
  have HA:=show Hid _ from hat
  have hlen:x.sub.length<=140737488351232:=hG.sub.1
  have HN:=show Hid (vF (x.sub.drop 0) m 0+1=mV x m) from by rw[List.drop_zero];exact(Q5 x m).symm
  generalize mV x m=ans at *
  clear hK hat hG
  generalize x.sub=s at *
  go_enter Tryz.func78,Tryz.ntmps78
  go_wp2_with fail
  go_loopw [7,8,9,10,13] (fun y _ _ _ i wr=>∃ (j d:Nat),j<=s.length/\i=.int .i64 (j:Int)/\y=.int .i64 (d:Int)/\d+1<=m/\Hid (vF (s.drop j) m d+1=ans)/\Hid (Below w.heap.size w wr)) (fun _ _ _ _ i _=>s.length - (intOf i).toNat)
  case atStart=>exact⟨0,0,Nat.zero_le _,rfl,rfl,h1,HN,Below.refl _ _⟩
  case round=>
   obtain⟨j,d,hj,rfl,rfl,hd,HF,HB⟩:=hrel
   clear HN
   by_cases hlt:j<s.length
   ·obtain⟨b,o,hbl,rfl,hat⟩:=HA.out (by omega)
    have hBL:Below L w wr:=HB.out.mono hL
    obtain⟨kv,h5,iE⟩:=hat wr hBL j hlt
    have hmem:s[j] ∈ s:=List.getElem_mem hlt
    have hst:=HF.out
    rw[List.drop_eq_getElem_cons hlt,vF] at hst
    have HST:=show Hid _ from hst
    have hsz:=HB.out.size
    have rV:=show Hid (∀ q:Nat,1<=q->q<=1025->Calls Tryz.prog 78 #[kv,.int .i64 (q:Int),.map none] wr fun e w'=>e=.returned (.int .i64 (mV s[j] q:Int))/\Below wr.heap.size wr w') from
     fun q a1 a2=>KC.out s[j] hmem wr kv iE (by omega) q a1 a2
    generalize s[j]=y at *
    obtain⟨a0,a1,a2,a3,a4⟩:=h5
    have hji:(j:Int)<(s.length:Int):=by omega
    clear hst HF hat iE hmem hBL KC
    by_cases jw:d+1=m
    ·have hst:=HST.out
     rw[if_pos jw] at hst
     subst jw
     subst hst
     clear HST
     have e1:((d+1:Nat):Int) - 1=(d:Int):=by omega
     go_wp2_with fail
     go_ret
     exact⟨qQ (by omega),HB.out⟩
    ·have hst:=HST.out
     rw[if_neg jw] at hst
     have hne:((d:Int) == (m:Int) - 1)=false:=by simp;omega
     have tF:=show Hid _ from hst
     have he1:(m:Int) - 1=((m - 1:Nat):Int):=by omega
     have AY:=show Hid ((m:Int) - 1=((m - 1:Nat):Int)) from he1
     have hlk:=fun a=>look_nil a wr
     clear hst HST he1
     go_wp2_with fail
     rw[AY.out]
     refine Calls.mono (rV.out (m - 1) (by omega) (by omega)) ?_
     rintro e w2 ⟨rfl,hb2⟩
     have yO:=show Hid (Below w.heap.size w w2) from HB.out.trans (hb2.mono hsz)
     generalize mV y (m - 1)=q at *
     have hnm:=Q6 w2
     clear hb2 HB rV a0 a1 a2 a3 a4 AY hlk
     go_wp2_with fail
     go_roundw
     case rel=>exact⟨j+1,max d (min q (m - 1)),by omega,by go_num,by go_num,by omega,tF,yO⟩
     case measure=>first|(simp[intOf];done)|(simp[intOf];omega)
   ·have qy:j=s.length:=by omega
    have hst:=HF.out
    rw[qy,List.drop_length,vF] at hst
    subst hst
    have hji:¬ (j:Int)<(s.length:Int):=by omega
    clear qy HF
    go_wp2_with fail
    go_ret
    exact⟨qQ (by omega),HB.out⟩
end Go.Proofs.YtkpbpecikibohaaGreatDoor.Ya
namespace Go.Proofs.YtkpbpecikibohaaGreatDoor.Ya
open Go.RowKit Go.Maps
open Fm (Nd)
open Ty (Tm dw mV gD eF fine named parts names)
def uW (w:World):Prop:=∀ K:Nat,1<=K->K<=12->w.cell? ⟨1,K * 3,none⟩=some (.int .i64 (parts K:Int))/\w.cell? ⟨1,K * 3+1,none⟩=some (.int .i64 (names K:Int))/\w.cell? ⟨1,K * 3+2,none⟩=some (.bool (K == 11))
theorem uW.lt {w:World} (h:uW w):1<w.heap.size:=World.block_lt_of_cell? w _ (h 1 (by decide) (by decide)).1
theorem uW.later {w w':World} (h:uW w) {L:Nat} (hb:Below L w w') (hl:1<L):uW w':=fun K h1 h2=>by
 have e:∀ j,w'.cell? ⟨1,j,none⟩=w.cell? ⟨1,j,none⟩:=fun j=>World.cell?_of_block (a:=⟨_,j,none⟩) (hb.block _ hl)
 obtain⟨a,b,c⟩:=h K h1 h2
 exact⟨(e _).trans a,(e _).trans b,(e _).trans c⟩
theorem AZ (w:World) (s:ByteArray) (hs:s.size<=140737488351232) (y:Bool) :
 Calls Tryz.prog 107 #[.string s,.bool y] w fun e w'=>e=.returned (.bool (named s y))/\w'=w:=by
 have KW:=show Hid (Calls Tryz.prog 103 #[.string s] w fun e w'=>e=.returned (.bool (Fm.word s.data.toList))/\w'=w) from Cu w s hs
 cases y
 ·have hn:named s false=(s.size == 0):=rfl
  go_enter Tryz.func107,Tryz.ntmps107
  go_wp2_with fail
  go_ret
  refine⟨eB ?_,rfl⟩
  rw[hn]
  obtain⟨⟨l⟩⟩:=s
  rw[ByteArray.toList_eq]
  cases l <;> rfl
 ·have hn:named s true=Fm.word s.data.toList:=rfl
  rw[hn]
  generalize Fm.word s.data.toList=q at *
  go_enter Tryz.func107,Tryz.ntmps107
  go_wp2_with fail
  refine KW.out.mono ?_
  rintro e w1 ⟨rfl,hw⟩
  subst w1
  go_wp2_with fail
  go_ret
  exact⟨rfl,rfl⟩
theorem Ik (x:Tm):gD x=(fine x.k x.n x.o x.f x.sub.length && eF x.sub):=by cases x;rw[gD];rfl
theorem J5 (w:World):(zeroValue 200).run Tryz.prog w=.ok (.agg #[.int .i64 0,.int .i64 0,.bool false]) w:=by kernel_rfl
theorem J6:(Tryz.prog.info? 200).map (·.size)=some 3:=by kernel_rfl
theorem J7 (x y:Int) (z:Bool):(#[.int .i64 x,.int .i64 y,.bool z]:Array Value).all (·.oneCell')=true:=by simp[Value.oneCell']
theorem qF:∀ (sz:Nat) (x:Tm),x.rk<sz->∀ (w:World) (L:Nat) (sv:Value),bg w L x sv->Gt x->L<=w.heap.size->uW w ->
 Calls Tryz.prog 79 #[bL x sv] w fun e w'=>e=.returned (.bool (gD x))/\Below w.heap.size w w'
 | 0,_,h,_,_,_,_,_,_,_=>absurd h (Nat.not_lt_zero _)
 | sz+1,x,hsz,w,L,sv,hK,hG,hL,hS=>by
  have KC:=show Hid (∀ y ∈ x.sub,∀ (W:World) (kv:Value),bg W L y kv->L<=W.heap.size->uW W->Calls Tryz.prog 79 #[bL y kv] W fun e w'=>e=.returned (.bool (gD y))/\Below W.heap.size W w') from
   fun y hy W kv hk hl hs=>qF sz y (by have:=Ty.Cz hy;omega) W L kv hk (hG.sub.2 y hy) hl hs
  have HS:=show Hid (∀ W:World,Below w.heap.size w W->uW W) from fun W hb=>hS.later hb hS.lt
  obtain⟨p,c,rfl,hat⟩:=hK.subs
  have HA:=show Hid _ from hat
  have hlen:x.sub.length<=140737488351232:=hG.sub.1
  obtain⟨dz,hgn,hgo,hgf⟩:=hG.parts
  have hsf:=Ik x
  generalize gD x=ans at *
  clear hK hat hG hS hsz
  unfold bL
  generalize x.k=xk at *
  generalize x.n=xn at *
  generalize x.o=xo at *
  generalize x.f=xf at *
  generalize x.sub=s at *
  have XF:=show Hid (∀ (W:World) (y:Bool),Calls Tryz.prog 107 #[.string xn,.bool y] W fun e w'=>e=.returned (.bool (named xn y))/\w'=W) from fun W y=>AZ W xn hgn y
  have XG:=show Hid (∀ (W:World) (y:Bool),Calls Tryz.prog 107 #[.string xo,.bool y] W fun e w'=>e=.returned (.bool (named xo y))/\w'=W) from fun W y=>AZ W xo hgo y
  go_enter Tryz.func79,Tryz.ntmps79
  go_wp2_with (refine aC 27 _ rfl _ rfl rfl ?_)
  intro w1 b1 hn1
  have d0:w1.cell? ⟨b1,0,none⟩=some (.int .i64 xk):=Cl.cell hn1.blk 0
  have d1:w1.cell? ⟨b1,1,none⟩=some (.string xn):=Cl.cell hn1.blk 1
  have d2:w1.cell? ⟨b1,2,none⟩=some (.string xo):=Cl.cell hn1.blk 2
  have d3:w1.cell? ⟨b1,3,none⟩=some (.int .i64 xf):=Cl.cell hn1.blk 3
  have d4:w1.cell? ⟨b1,4,none⟩=some (.slice p s.length c):=Cl.cell hn1.blk 4
  have bU:=show Hid (New w w1 b1 #[.int .i64 xk,.string xn,.string xo,.int .i64 xf,.slice p s.length c] 27) from hn1
  clear hn1
  by_cases hr1:xk<1
  ·have hb1:decide (xk<1)=true:=by simpa using hr1
   have ha:ans=false:=by rw[hsf];unfold fine;simp;intros;omega
   clear hsf
   subst ha
   go_wp2_with fail
   go_ret
   exact⟨rfl,bU.out.av⟩
  by_cases hr2:12<xk
  ·have hb1:decide (xk<1)=false:=by simpa using hr1
   have hb2:decide (12<xk)=true:=by simpa using hr2
   have ha:ans=false:=by rw[hsf];unfold fine;simp;intros;omega
   clear hsf
   subst ha
   go_wp2_with fail
   go_ret
   exact⟨rfl,bU.out.av⟩
  have hb1:decide (xk<1)=false:=by simpa using hr1
  have hb2:decide (12<xk)=false:=by simpa using hr2
  obtain⟨K,rfl⟩:∃ K:Nat,xk=(K:Int):=⟨xk.toNat,by omega⟩
  obtain⟨s0,s1,s2⟩:=HS.out w1 bU.out.av K (by omega) (by omega)
  go_wp2_with (refine aN 200 rfl _ J5 rfl ?_)
  intro w2 b2 hn2
  go_wp2_with (refine aQ 200 rfl rfl _ _ rfl b2 rfl _ rfl _ _ hn2.blk J6 rfl (J7 _ _ _) ?_)
  intro w3 hc3 hk3
  have sP:Below w1.heap.size w1 w3:=bR hn2.av hk3 hn2.ge
  have HB3:=show Hid (Below w.heap.size w w3) from bU.out.av.trans (sP.mono bU.out.av.size)
  have q0:w3.cell? ⟨b2,0,none⟩=some (.int .i64 (parts K:Int)):=hc3.cell 0
  have q1:w3.cell? ⟨b2,1,none⟩=some (.int .i64 (names K:Int)):=hc3.cell 1
  have q2:w3.cell? ⟨b2,2,none⟩=some (.bool (K == 11)):=hc3.cell 2
  have h1:Cl w3 b1 _ _:=Cl.later (show Cl w1 b1 _ _ from bU.out.blk) sP
  have e0:w3.cell? ⟨b1,0,none⟩=some (.int .i64 (K:Int)):=h1.cell 0
  have e1:w3.cell? ⟨b1,1,none⟩=some (.string xn):=h1.cell 1
  have e2:w3.cell? ⟨b1,2,none⟩=some (.string xo):=h1.cell 2
  have e3:w3.cell? ⟨b1,3,none⟩=some (.int .i64 xf):=h1.cell 3
  have e4:w3.cell? ⟨b1,4,none⟩=some (.slice p s.length c):=h1.cell 4
  clear d0 d1 d2 d3 d4 s0 s1 s2 hn2 hc3 hk3 sP h1 hb1 hb2
  have hfin:fine (K:Int) xn xo xf s.length=((s.length == parts (K:Int) && named xn (decide (0<names (K:Int))) && named xo (decide (1<names (K:Int)))) && (xf == 0 || ((K:Int) == 11 && decide (0<=xf) && decide (xf<1024)))):=by
   unfold fine
   rw[decide_eq_true (show(1:Int)<=K by omega),decide_eq_true (show(K:Int)<=12 by omega)]
   rfl
  rw[hfin] at hsf
  have XH:(decide ((0:Int)<(names (K:Int):Int)))=decide (0<names (K:Int)):=decide_eq_decide.2 (by omega)
  have Tq:(decide ((1:Int)<(names (K:Int):Int)))=decide (1<names (K:Int)):=decide_eq_decide.2 (by omega)
  have Tt:=show Hid _ from And.intro XH Tq
  generalize parts (K:Int)=P at *
  generalize names (K:Int)=M at *
  clear hfin XH Tq
  by_cases hP:s.length=P
  ·have hPb:((s.length:Int) != (P:Int))=false:=by simp;omega
   rw[show(s.length == P)=true by simpa using hP,Bool.true_and] at hsf
   have kL:=show Hid _ from hsf
   clear hsf hP
   go_wp2_with fail
   refine Calls.mono (XF.out w3 _) ?_
   rintro e w4 ⟨rfl,hw⟩
   subst w4
   try rw[Tt.out.1]
   cases hn1:named xn (decide (0<M))
   ·have ha:ans=false:=by rw[kL.out,hn1];rfl
    clear kL hn1
    subst ha
    go_wp2_with fail
    go_ret
    exact⟨rfl,HB3.out⟩
   have hsf:=kL.out
   rw[hn1,Bool.true_and] at hsf
   have kL:=show Hid _ from hsf
   clear hsf hn1
   go_wp2_with fail
   refine Calls.mono (XG.out w3 _) ?_
   rintro e w4 ⟨rfl,hw⟩
   subst w4
   try rw[Tt.out.2]
   cases hn2:named xo (decide (1<M))
   ·have ha:ans=false:=by rw[kL.out,hn2];rfl
    clear kL hn2
    subst ha
    go_wp2_with fail
    go_ret
    exact⟨rfl,HB3.out⟩
   have hsf:=kL.out
   rw[hn2,Bool.true_and] at hsf
   clear hn2 XF XG Tt e1 e2 q0 q1
   have Tv:(K == 11)=((K:Int) == 11):=by
    by_cases h:K=11
    ·subst h;rfl
    ·have h2:¬ (K:Int)=11:=by omega
     rw[beq_eq_false_iff_ne.2 h,beq_eq_false_iff_ne.2 h2]
   rw[<- Tv] at hsf
   generalize (K == 11)=F at *
   clear Tv
   by_cases hf0:xf=0
   ·subst hf0
    have J8:=show Hid (ans=eF s) from hsf
    clear hsf
    go_wp2_with fail
    go_loopw [5,63] (fun _ i wr=>∃ j:Nat,j<=s.length/\i=.int .i64 (j:Int)/\Hid (eF (s.drop j)=ans)/\Hid (Below w.heap.size w wr)) (fun _ i _=>s.length - (intOf i).toNat)
    case atStart=>exact⟨0,Nat.zero_le _,rfl,by rw[List.drop_zero];exact J8.out.symm,HB3⟩
    case round=>
     obtain⟨j,hj,rfl,HF,HB⟩:=hrel
     clear J8 HB3
     by_cases hlt:j<s.length
     ·obtain⟨b,o,hbl,rfl,hat⟩:=HA.out (by omega)
      have hBL:Below L w wr:=HB.out.mono hL
      obtain⟨kv,h5,iE⟩:=hat wr hBL j hlt
      have hmem:s[j] ∈ s:=List.getElem_mem hlt
      have hst:=HF.out
      rw[List.drop_eq_getElem_cons hlt,eF] at hst
      have hsz:=HB.out.size
      have rV:=show Hid (∀ W:World,Below wr.heap.size wr W->Calls Tryz.prog 79 #[bL s[j] kv] W fun e w'=>e=.returned (.bool (gD s[j]))/\Below W.heap.size W w') from
       fun W hW=>KC.out s[j] hmem W kv (iE.below (hW.mono (by omega))) (by have:=hW.size;omega) (HS.out W (HB.out.trans (hW.mono hsz)))
      obtain⟨kp,kn,kc,rfl⟩:=iE.form
      generalize s[j]=y at *
      unfold bL at rV
      obtain⟨a0,a1,a2,a3,a4⟩:=h5
      generalize y.k=yk at *
      generalize y.n=yn at *
      generalize y.o=yo at *
      generalize y.f=yf at *
      generalize gD y=sy at *
      have HST:=show Hid _ from hst
      have hji:(j:Int)<(s.length:Int):=by omega
      clear hst HF hat iE hmem hBL KC
      go_wp2_with fail
      refine Calls.mono (rV.out _ (ak _ _)) ?_
      rintro e w5 ⟨rfl,hb5⟩
      have yO:=show Hid (Below w.heap.size w w5) from HB.out.trans (((ak _ _).trans (hb5.mono (by simp))).mono hsz)
      clear hb5 rV HB a0 a1 a2 a3 a4
      cases sy with
      | false=>
       have ha:ans=false:=HST.out.symm
       clear HST
       subst ha
       go_wp2_with fail
       go_ret
       exact⟨rfl,yO.out⟩
      | true=>
       have tF:=show Hid (eF (s.drop (j+1))=ans) from HST.out
       clear HST
       go_wp2_with fail
       go_roundw
       case rel=>exact⟨j+1,by omega,by go_num,tF,yO⟩
       case measure=>first|(simp[intOf];done)|(simp[intOf];omega)
     ·have qy:j=s.length:=by omega
      have hst:=HF.out
      rw[qy,List.drop_length,eF] at hst
      subst hst
      have hji:¬ (j:Int)<(s.length:Int):=by omega
      clear qy HF
      go_wp2_with fail
      go_ret
      exact⟨rfl,HB.out⟩
   have ac8:(xf != 0)=true:=by simpa using hf0
   have Tw:(xf == 0)=false:=by simpa using hf0
   rw[Tw,Bool.false_or] at hsf
   clear Tw
   cases F with
   | false=>
    have ha:ans=false:=hsf
    clear hsf
    subst ha
    go_wp2_with fail
    go_ret
    exact⟨rfl,HB3.out⟩
   | true=>
    rw[Bool.true_and] at hsf
    by_cases hx0:xf<0
    ·have hx:decide (0<=xf)=false:=by simpa using hx0
     have hxb:decide (xf<0)=true:=by simpa using hx0
     have ha:ans=false:=by rw[hsf,hx];rfl
     clear hsf hx
     subst ha
     go_wp2_with fail
     go_ret
     exact⟨rfl,HB3.out⟩
    have hxb:decide (xf<0)=false:=by simpa using hx0
    rw[decide_eq_true (show 0<=xf by omega),Bool.true_and] at hsf
    by_cases hx1:1024<=xf
    ·have hx:decide (xf<1024)=false:=by simpa using hx1
     have hxc:decide (1024<=xf)=true:=by simpa using hx1
     have ha:ans=false:=by rw[hsf,hx];rfl
     clear hsf hx
     subst ha
     go_wp2_with fail
     go_ret
     exact⟨rfl,HB3.out⟩
    have hxc:decide (1024<=xf)=false:=by simpa using hx1
    rw[decide_eq_true (show xf<1024 by omega),Bool.true_and] at hsf
    have J8:=show Hid (ans=eF s) from hsf
    clear hsf
    go_wp2_with fail
    go_loopw [5,63] (fun _ i wr=>∃ j:Nat,j<=s.length/\i=.int .i64 (j:Int)/\Hid (eF (s.drop j)=ans)/\Hid (Below w.heap.size w wr)) (fun _ i _=>s.length - (intOf i).toNat)
    case atStart=>exact⟨0,Nat.zero_le _,rfl,by rw[List.drop_zero];exact J8.out.symm,HB3⟩
    case round=>
     obtain⟨j,hj,rfl,HF,HB⟩:=hrel
     clear J8 HB3
     by_cases hlt:j<s.length
     ·obtain⟨b,o,hbl,rfl,hat⟩:=HA.out (by omega)
      have hBL:Below L w wr:=HB.out.mono hL
      obtain⟨kv,h5,iE⟩:=hat wr hBL j hlt
      have hmem:s[j] ∈ s:=List.getElem_mem hlt
      have hst:=HF.out
      rw[List.drop_eq_getElem_cons hlt,eF] at hst
      have hsz:=HB.out.size
      have rV:=show Hid (∀ W:World,Below wr.heap.size wr W->Calls Tryz.prog 79 #[bL s[j] kv] W fun e w'=>e=.returned (.bool (gD s[j]))/\Below W.heap.size W w') from
       fun W hW=>KC.out s[j] hmem W kv (iE.below (hW.mono (by omega))) (by have:=hW.size;omega) (HS.out W (HB.out.trans (hW.mono hsz)))
      obtain⟨kp,kn,kc,rfl⟩:=iE.form
      generalize s[j]=y at *
      unfold bL at rV
      obtain⟨a0,a1,a2,a3,a4⟩:=h5
      generalize y.k=yk at *
      generalize y.n=yn at *
      generalize y.o=yo at *
      generalize y.f=yf at *
      generalize gD y=sy at *
      have HST:=show Hid _ from hst
      have hji:(j:Int)<(s.length:Int):=by omega
      clear hst HF hat iE hmem hBL KC
      go_wp2_with fail
      refine Calls.mono (rV.out _ (ak _ _)) ?_
      rintro e w5 ⟨rfl,hb5⟩
      have yO:=show Hid (Below w.heap.size w w5) from HB.out.trans (((ak _ _).trans (hb5.mono (by simp))).mono hsz)
      clear hb5 rV HB a0 a1 a2 a3 a4
      cases sy with
      | false=>
       have ha:ans=false:=HST.out.symm
       clear HST
       subst ha
       go_wp2_with fail
       go_ret
       exact⟨rfl,yO.out⟩
      | true=>
       have tF:=show Hid (eF (s.drop (j+1))=ans) from HST.out
       clear HST
       go_wp2_with fail
       go_roundw
       case rel=>exact⟨j+1,by omega,by go_num,tF,yO⟩
       case measure=>first|(simp[intOf];done)|(simp[intOf];omega)
     ·have qy:j=s.length:=by omega
      have hst:=HF.out
      rw[qy,List.drop_length,eF] at hst
      subst hst
      have hji:¬ (j:Int)<(s.length:Int):=by omega
      clear qy HF
      go_wp2_with fail
      go_ret
      exact⟨rfl,HB.out⟩
  ·have hPb:((s.length:Int) != (P:Int))=true:=by simp;omega
   have ha:ans=false:=by rw[hsf,show(s.length == P)=false by simpa using hP];rfl
   clear hsf
   subst ha
   go_wp2_with fail
   go_ret
   exact⟨rfl,HB3.out⟩
theorem Il (x:Tm) (w:World) (L:Nat) (sv:Value) (hK:bg w L x sv) (hG:Gt x) (hL:L<=w.heap.size) (hS:uW w) :
 Calls Tryz.prog 42 #[bL x sv] w fun e w'=>e=.returned (.int .i64 (Ty.kM x))/\Below w.heap.size w w':=by
 have K1:=show Hid (∀ W:World,Below w.heap.size w W->Calls Tryz.prog 77 #[bL x sv] W fun e w'=>e=.returned (.int .i64 (dw x 65537:Int))/\Below W.heap.size W w') from
  fun W hW=>ND x W L sv (hK.below (hW.mono hL)) hG (Nat.le_trans hL hW.size)
 have K2:=show Hid (∀ W:World,Below w.heap.size w W->Calls Tryz.prog 78 #[sv,.int .i64 ((1025:Nat):Int),.map none] W fun e w'=>e=.returned (.int .i64 (mV x 1025:Int))/\Below W.heap.size W w') from
  fun W hW=>yP _ x (Nat.lt_succ_self _) W L sv (hK.below (hW.mono hL)) hG (Nat.le_trans hL hW.size) 1025 (by decide) (by decide)
 have K3:=show Hid (∀ W:World,Below w.heap.size w W->Calls Tryz.prog 79 #[bL x sv] W fun e w'=>e=.returned (.bool (gD x))/\Below W.heap.size W w') from
  fun W hW=>qF _ x (Nat.lt_succ_self _) W L sv (hK.below (hW.mono hL)) hG (Nat.le_trans hL hW.size) (hS.later hW hS.lt)
 obtain⟨p,n,c,rfl⟩:=hK.form
 have iF:Ty.kM x=if 65536<dw x 65537\/1024<mV x 1025 then 121 else if gD x then 0 else 120:=rfl
 generalize Ty.kM x=ans at *
 generalize dw x 65537=N at *
 generalize mV x 1025=D at *
 generalize gD x=S at *
 unfold bL at K1 K3 |-
 clear hK hG hS
 generalize x.k=xk at *
 generalize x.n=xn at *
 generalize x.o=xo at *
 generalize x.f=xf at *
 have aI:=show Hid _ from iF
 clear iF
 go_enter Tryz.func42,Tryz.ntmps42
 go_wp2_with (refine aC 27 _ rfl _ rfl rfl ?_)
 intro w1 b1 hn1
 have HC:=show Hid (∀ W,Below w1.heap.size w1 W->Cl W b1 #[.int .i64 xk,.string xn,.string xo,.int .i64 xf,.slice p n c] 27) from fun W hW=>Cl.later (show Cl w1 b1 _ _ from hn1.blk) hW
 have HB1:=show Hid (Below w.heap.size w w1) from hn1.av
 have d0:w1.cell? ⟨b1,0,none⟩=some (.int .i64 xk):=Cl.cell hn1.blk 0
 have d1:w1.cell? ⟨b1,1,none⟩=some (.string xn):=Cl.cell hn1.blk 1
 have d2:w1.cell? ⟨b1,2,none⟩=some (.string xo):=Cl.cell hn1.blk 2
 have d3:w1.cell? ⟨b1,3,none⟩=some (.int .i64 xf):=Cl.cell hn1.blk 3
 have d4:w1.cell? ⟨b1,4,none⟩=some (.slice p n c):=Cl.cell hn1.blk 4
 clear hn1
 go_wp2_with fail
 refine Calls.mono (K1.out w1 HB1.out) ?_
 rintro e w2 ⟨rfl,hb2⟩
 have hc2:=HC.out w2 hb2
 have HB2:=show Hid (Below w.heap.size w w2) from HB1.out.trans (hb2.mono HB1.out.size)
 have Tx:=show Hid (Below w1.heap.size w1 w2) from hb2
 have f4:w2.cell? ⟨b1,4,none⟩=some (.slice p n c):=hc2.cell 4
 clear d0 d1 d2 d3 d4 hc2 hb2 K1
 by_cases hN:65536<N
 ·have Z4:(65536:Int)<(N:Int):=by omega
  obtain rfl:ans=121:=by rw[aI.out,if_pos (Or.inl hN)]
  clear aI
  go_wp2_with fail
  go_ret
  exact⟨rfl,HB2.out⟩
 have Z4:¬ (65536:Int)<(N:Int):=by omega
 go_wp2_with fail
 refine Calls.mono (K2.out w2 HB2.out) ?_
 rintro e w3 ⟨rfl,hb3⟩
 have hc3:=HC.out w3 (Tx.out.trans (hb3.mono Tx.out.size))
 have HB3:=show Hid (Below w.heap.size w w3) from HB2.out.trans (hb3.mono HB2.out.size)
 have d0:w3.cell? ⟨b1,0,none⟩=some (.int .i64 xk):=hc3.cell 0
 have d1:w3.cell? ⟨b1,1,none⟩=some (.string xn):=hc3.cell 1
 have d2:w3.cell? ⟨b1,2,none⟩=some (.string xo):=hc3.cell 2
 have d3:w3.cell? ⟨b1,3,none⟩=some (.int .i64 xf):=hc3.cell 3
 have d4:w3.cell? ⟨b1,4,none⟩=some (.slice p n c):=hc3.cell 4
 clear f4 hc3 hb3 K2 HC
 by_cases hD:1024<D
 ·have Z5:(1024:Int)<(D:Int):=by omega
  obtain rfl:ans=121:=by rw[aI.out,if_pos (Or.inr hD)]
  clear aI
  go_wp2_with fail
  go_ret
  exact⟨rfl,HB3.out⟩
 have Z5:¬ (1024:Int)<(D:Int):=by omega
 have iF:ans=if S=true then 0 else 120:=by rw[aI.out,if_neg (by omega)]
 clear aI
 have aI:=show Hid _ from iF
 clear iF
 go_wp2_with fail
 refine Calls.mono (K3.out w3 HB3.out) ?_
 rintro e w4 ⟨rfl,hb4⟩
 have jc:=show Hid (Below w.heap.size w w4) from HB3.out.trans (hb4.mono HB3.out.size)
 clear d0 d1 d2 d3 d4 hb4 K3 HB3
 cases S with
 | true=>
  obtain rfl:ans=0:=aI.out
  clear aI
  go_wp2_with fail
  go_ret
  exact⟨rfl,jc.out⟩
 | false=>
  obtain rfl:ans=120:=aI.out
  clear aI
  go_wp2_with fail
  go_ret
  exact⟨rfl,jc.out⟩
end Go.Proofs.YtkpbpecikibohaaGreatDoor.Ya

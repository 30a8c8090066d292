import Derived.Test.YtkejippimkjjaaaGreatDoorKG2
import Derived.Test.YtkejippimkjjaaaGreatDoorZG6
set_option linter.unusedSimpArgs false
namespace Go.Proofs.YtkejippimkjjaaaGreatDoor
open Fm (Nd)
open Bt.Bs (Ok wd)
theorem MO {t:List Nd} (hO:Fm.Ok t) {r:List Nat} (hr:Ok r) {g:Int} (hq:eB t r g=true) (fD:(aL t r g).1≠14):(aL t r g).1<=10:=by
 have e:tl1 r g (dD t r g) dP=dP.flatMap (fl t r g):=yj hO hr hq dP (fun u hu=>List.mem_append_left _ hu)
 unfold aL at *
 rw[e] at fD |-
 cases hh:dP.flatMap (fl t r g) with
 | nil=>rw[hh] at fD;exact absurd rfl fD
 | cons x l=>
  have hx:x ∈ dP.flatMap (fl t r g):=by rw[hh];exact List.mem_cons_self ..
  obtain⟨u,hu,hx⟩:=List.mem_flatMap.1 hx
  unfold fl at hx
  obtain⟨i,_,hx⟩:=List.mem_flatMap.1 hx
  unfold jS at hx
  rw[List.drop_zero] at hx
  obtain⟨k,hk,hx⟩:=List.mem_flatMap.1 hx
  unfold kK at hx
  split at hx
  ·obtain rfl:=List.mem_singleton.1 hx
   show k<=10
   have:∀ u ∈ dP,∀ k ∈ u,k<=10:=by decide
   exact this u hu k hk
  ·cases hx
theorem Cz {t:List Nd} (hO:Fm.Ok t) {r:List Nat} (hr:Ok r) {g:Int} (hq:eB t r g=true) {c:Int × Int} (hc:c ∈ dV t r g):11<=c.1:=by
 rw[Cm hO hr hq] at hc
 split at hc
 ·rcases List.mem_append.1 hc with hc | hc
  ·split at hc
   ·rcases List.mem_cons.1 hc with rfl | hc
    ·exact Int.le_refl 11
    ·obtain rfl:=List.mem_singleton.1 hc
     show(11:Int)<=12
     decide
   ·cases hc
  ·unfold iq at hc
   obtain⟨i,_,hx⟩:=List.mem_flatMap.1 hc
   unfold jS at hx
   rw[List.drop_zero] at hx
   obtain⟨k,hk,hx⟩:=List.mem_flatMap.1 hx
   unfold kK at hx
   split at hx
   ·obtain rfl:=List.mem_singleton.1 hx
    obtain rfl:=List.mem_singleton.1 hk
    show(11:Int)<=13
    decide
   ·cases hx
 ·cases hc
theorem mX {t:List Nd} (hO:Fm.Ok t) {s:SQ} (hr:Ok s.1) (hq:eD t.length s) {ru main:Int} (hf:findF t s.1 s.2 ru main=true) (h0:(aH t s.1 s.2 ru main).2.2=0) :
 Fm.Ok (aH t s.1 s.2 ru main).2.1/\Ext t (aH t s.1 s.2 ru main).2.1/\(∀ p ∈ (aH t s.1 s.2 ru main).1,eD (aH t s.1 s.2 ru main).2.1.length p/\Ok p.1)/\∀ W,Wt (aH t s.1 s.2 ru main).2.1 W->∀ p ∈ (aH t s.1 s.2 ru main).1,mu W p<mu W s:=by
 obtain⟨i,_,hi,hpc,nG⟩:=rZ hO hr (jE hr hq) hf h0
 have h1:=Md nG hr hi hpc hq
 have h2:=(oW (t:=t) hr s.2 ru main).1
 exact⟨nG,uR hpc,fun p hp=>⟨h1.2 p hp,h2 p hp⟩,fun W hW=>Pn nG hr hi hpc hW⟩
theorem qK.same {B:Nat} {R:Rs} {s:SQ} {q:Rs × Int × Nat} (h:qK B R s q):Gd q.1:=h.gd
structure tV (B:Nat) (R:Rs) (s:SQ) (q:Rs × Int × Stp):Prop where
 way:Wy B R s q.1 q.2.1
 uX:q.2.1=0->q.2.2.s=s/\ER q.1.t q.2.2/\uW q.1.st q.2.2.pv q.2.2.kd
theorem tV.trans {B:Nat} {R R1:Rs} {s:SQ} {q:Rs × Int × Stp} (h:Wy B R s R1 0) (k:tV B R1 s q):tV B R s q:=⟨h.trans k.way,k.uX⟩
theorem CB {B:Nat} {d:lK} (hd:og B d) {t0:List Nd} (hO:Fm.Ok t0) {s:SQ} (hr:Ok s.1) (hq:eD t0.length s) {ru main:Int} (hf:findF t0 s.1 s.2 ru main=true) (h0:(aH t0 s.1 s.2 ru main).2.2=0) {R:Rs} (hG:Gd R) (hB:R.vs<=B) (hE:Ext (aH t0 s.1 s.2 ru main).2.1 R.t) (hv:11<=ru->∀ p ps,(aH t0 s.1 s.2 ru main).1=p :: ps->Val R.t p) :
 tV B R s (eO d R ⟨s,false,ru,main,[]⟩ (aH t0 s.1 s.2 ru main).1):=by
 obtain⟨i,_,hi,hpc,nG⟩:=rZ hO hr (jE hr hq) hf h0
 obtain⟨_,hE0,hp,hm⟩:=mX hO hr hq hf h0
 obtain⟨a1,a2⟩:=Co hd (aH t0 s.1 s.2 ru main).1 R ⟨s,false,ru,main,[]⟩ hG hB (fun p hh=>⟨jr hE (hp p hh).1,(hp p hh).2⟩) (fun W hW p hh=>hm W (hW.ext hE) p hh) rfl (fun j hj=>by cases hj)
 refine⟨a1,fun he => ?_⟩
 obtain⟨b1,b2,b3⟩:=a2 he
 have EU:=hE.trans a1.ext
 have EW:eD (aH t0 s.1 s.2 ru main).2.1.length s:=jr hE0 hq
 refine⟨b1,⟨by rw[b1];exact hr,by rw[b1];exact jr EU EW,fun hy => ?_,fun hy => ?_⟩,b2⟩
 ·rcases b3 with ⟨_,b4⟩ | ⟨b4,_⟩
  ·rw[b1]
   exact(RJ nG hr hi hq hpc fun p hh=>(b4 p hh).back nG a1.gd.ok (hp p hh).1 EU).ext EU
  ·rw[hy] at b4;cases b4
 ·rcases b3 with ⟨b4,_⟩ | ⟨_,p,hh,b4⟩
  ·rw[hy] at b4;cases b4
  ·rw[b1]
   have hb:=b4.back EU
   have Ul:ru<11->Ref (aH t0 s.1 s.2 ru main).2.1 s:=fun hlt=>JH nG hr hi hpc (by omega) (by omega) hh (fun h=>by omega) hb
   by_cases hlt:ru<11
   ·exact(Ul hlt).ext nG a1.gd.ok EW EU
   have hv:=hv (by omega)
   generalize hl:(aH t0 s.1 s.2 ru main).1=l at *
   generalize (aH t0 s.1 s.2 ru main).2.1=t' at *
   have hnot:∀ p' ps,l=p' :: ps->p≠p':=fun p' ps e1 e2=>by
    subst e2
    exact Pj ((hv p ps e1).ext a1.ext) b4
   refine(JH nG hr hi hpc ?_ ?_ hh ?_ hb).ext nG a1.gd.ok EW EU
   ·rintro rfl
    cases hpc
    exact hnot _ _ rfl (List.mem_singleton.1 hh)
   ·rintro rfl
    cases hpc
    exact hnot _ _ rfl (List.mem_singleton.1 hh)
   ·rintro rfl
    cases hpc
    rcases List.mem_cons.1 hh with e | e
    ·exact absurd e (hnot _ _ rfl)
    ·rw[List.mem_singleton.1 e]
     exact⟨rfl,_,rfl⟩
def xA (T:List Nd) (s:SQ):Prop:=eD T.length s/\Ref T s
theorem xA.ext {t t1:List Nd} (hO:Fm.Ok t) (gH:Fm.Ok t1) {s:SQ} (h:xA t s) (e:Ext t t1):xA t1 s:=⟨jr e h.1,h.2.ext hO gH h.1 e⟩
structure JY (t T:List Nd) (r:List Nat) (g:Int) (c:Int × Int):Prop where
 c11:c.1=11->∀ x y:Nat,aB t g=ay 4 x y->xA T (r,(x:Int))
 c12:c.1=12->∀ x y:Nat,aB t g=ay 4 x y->xA T (r,(y:Int))
 c13:c.1=13->∀ i x y c2 d2:Nat,c.2=(i:Int)->i<t.length->aB t (i:Int)=ay 5 x y->x<t.length->aB t (x:Int)=ay 5 c2 d2->∃ f,f<T.length/\aB T (f:Int)=ay 5 d2 y/\xA T (Bt.Bs.put (Bt.Bs.drop r i) f,(x:Int))
theorem JY.ext {t T T1:List Nd} {r:List Nat} {g:Int} {c:Int × Int} (h:JY t T r g c) (hO:Fm.Ok T) (gH:Fm.Ok T1) (e:Ext T T1):JY t T1 r g c :=
 ⟨fun h1 x y hn=>(h.c11 h1 x y hn).ext hO gH e,fun h1 x y hn=>(h.c12 h1 x y hn).ext hO gH e,fun h1 i x y c2 d2 h2 h3 h4 h5 h6=>by
  obtain⟨f,a1,a2,a3⟩:=h.c13 h1 i x y c2 d2 h2 h3 h4 h5 h6
  exact⟨f,Nat.lt_of_lt_of_le a1 e.len,by rw[e.pq f a1];exact a2,a3.ext hO gH e⟩⟩
theorem za {t:List Nd} {r:List Nat} {g:Int} {i:Nat} {ru:Int} {l:List SQ} {t':List Nd} (nZ:11<=ru) (h:PC t r g i ru l t'):∃ p ps,l=p :: ps:=by
 cases h <;> first|exact⟨_,_,rfl⟩ | (exfalso;revert nZ;decide)
theorem nI {a b:Nat} (h:(a:Int)=(b:Int)):a=b:=by omega
theorem xB {B:Nat} {d:lK} (hd:og B d) {t0:List Nd} (hO:Fm.Ok t0) {s:SQ} (hr:Ok s.1) (hq:eD t0.length s) (fD:(aL t0 s.1 s.2).1=14):∀ (cs:List (Int × Int)) (R:Rs) (ks:List Nat),Gd R->R.vs<=B->Ext t0 R.t->(∀ c ∈ cs,c ∈ dV t0 s.1 s.2)->(∀ c ∈ dV t0 s.1 s.2,c ∈ cs\/JY t0 R.t s.1 s.2 c)->uW R.st false ks->tV B R s (jk d s R cs ks)
 | [],R,ks,hG,hB,hE,_,hc,hk=>by
  unfold jk
  refine⟨Wy.refl _ hG hB _,fun _=>⟨rfl,⟨hr,jr hE hq,fun h=>(by cases h),fun _ => ?_⟩,hk⟩⟩
  have hh:=PL hO hr hq fD
  have hc:∀ c ∈ dV t0 s.1 s.2,JY t0 R.t s.1 s.2 c:=fun c hm=>by
   rcases hc c hm with h | h
   ·cases h
   ·exact h
  refine JI hO hG.ok hE hr hq (PK hO hr hq fD) ⟨fun x y hn => ?_,fun i x y c2 d2 hi hm hn hn2 => ?_⟩
  ·have h4:(aB t0 s.2).k=4:=by rw[hn];rfl
   exact⟨((hc _ (hh.1 h4).1).c11 rfl x y hn).2,((hc _ (hh.1 h4).2).c12 rfl x y hn).2⟩
  ·have hxi:x<i:=by
    have hk5:t0[i].k=5:=by rw[<- aY hi,hn];rfl
    obtain⟨x',y',e,lx,_,_,_⟩:=fT hO hi hk5 (by omega)
    rw[hn] at e
    have:=nI (qL e).1
    omega
   obtain⟨f,a1,a2,a3⟩:=(hc _ (hh.2 i x y c2 d2 hi hm hn hxi hn2)).c13 rfl i x y c2 d2 rfl hi hn (by omega) hn2
   exact⟨f,a1,a2,a3.2⟩
 | c :: cs,R,ks,hG,hB,hE,hcs,hc,hk=>by
  have hcm:=hcs c (List.mem_cons_self ..)
  have hq1:=jr hE hq
  have nZ:=Cz hO hr (jN.2 hq) hcm
  have hf0:=y8 hO hr hcm
  have hf:findF R.t s.1 s.2 c.1 c.2=true:=by
   have hh:Fm.has t0 c.2=true:=by
    unfold findF at hf0
    simp only[Bool.and_eq_true] at hf0
    exact hf0.1.1
   have hh:=Fm.bJ.1 hh
   obtain⟨n,hn⟩:∃ n:Nat,c.2=n:=⟨c.2.toNat,by omega⟩
   rw[hn] at hf0 |-
   exact xu hO hE (by omega) hf0
  unfold jk
  by_cases he:(aH R.t s.1 s.2 c.1 c.2).2.2≠0
  ·rw[if_pos he,Cq he]
   exact⟨Wy.refl _ hG hB _,fun h=>absurd h he⟩
  rw[if_neg he]
  have he:(aH R.t s.1 s.2 c.1 c.2).2.2=0:=by simpa using he
  obtain⟨gH,hE1,hp,hm⟩:=mX hG.ok hr hq1 hf he
  have hfr:=fun R2 (hG2:Gd R2) hB2 hE2=>CB (R:=R2) hd hG.ok hr hq1 hf he hG2 hB2 hE2
  obtain⟨i,hmain,hi,hpc,_⟩:=rZ hG.ok hr (jE hr hq1) hf he
  generalize hpl:(aH R.t s.1 s.2 c.1 c.2).1=l at *
  generalize (aH R.t s.1 s.2 c.1 c.2).2.1=t1 at *
  obtain⟨p,ps,rfl⟩:∃ p ps,l=p :: ps:=za nZ hpc
  rw[show(p :: ps).headD (Bt.Bs.zero,0)=p from rfl]
  have hG1:=hG.grow gH hE1
  have hw1:Wy B R s ⟨t1,R.st,R.vs⟩ 0:=Wy.grow s hG hB gH hE1 0
  have h1:=hd ⟨t1,R.st,R.vs⟩ p hG1 hB (hp p (List.mem_cons_self ..)).1 (hp p (List.mem_cons_self ..)).2
  generalize q8:d ⟨t1,R.st,R.vs⟩ p=q at *
  have hw:=h1.way (s:=s) (fun W hW=>hm W hW p (List.mem_cons_self ..))
  by_cases he2:q.2.1≠0
  ·rw[if_pos he2]
   exact⟨hw1.trans hw,fun h=>absurd h he2⟩
  rw[if_neg he2]
  have he2:q.2.1=0:=by simpa using he2
  rw[he2] at hw
  have hw2:=hw1.trans hw
  obtain⟨y,hy,hys,htr⟩:=h1.at he2
  rw[getD_some hy]
  by_cases hpv:y.pv=true
  ·rw[if_pos hpv]
   have hv:=htr.yes hpv
   rw[hys] at hv
   exact tV.trans hw2 (hfr q.1 h1.gd h1.vs.2 h1.ext fun _ p' ps' e=>by
    injection e with e1 e2
    rw[<- e1]
    exact hv)
  ·rw[if_neg hpv]
   have hpv:y.pv=false:=by simpa using hpv
   have hv:=htr.no hpv
   have hrg:=htr.rg
   rw[hys] at hv hrg
   refine tV.trans hw2 (xB hd hO hr hq fD cs q.1 (ks ++ [q.2.2]) h1.gd h1.vs.2 (hE.trans hw2.ext) (fun c' hc'=>hcs c' (List.mem_cons_of_mem _ hc')) (fun c' hc' => ?_) (fun j hj => ?_))
   ·rcases hc c' hc' with h | h
    ·rcases List.mem_cons.1 h with rfl | h
     ·refine Or.inr ?_
      have SK:xA q.1.t p:=⟨hrg,hv⟩
      have hgn:∀ x y:Nat,aB t0 s.2=ay 4 x y->aB R.t s.2=ay 4 x y:=fun x y hn=>by
       have h2:0<=s.2/\s.2<t0.length:=hq.2
       obtain⟨gn,hgn⟩:∃ gn:Nat,s.2=gn:=⟨s.2.toNat,by omega⟩
       rw[hgn] at hn |-
       rw[hE.pq gn (by omega)]
       exact hn
      refine⟨fun e x y2 hn => ?_,fun e x y2 hn => ?_,fun e i' x y2 c2 d2 e2 hi' hn hx hn2 => ?_⟩
      ·rw[e] at hpc
       cases hpc with
       | yY x' y' hn' hx' hy' hg'=>
        have:=hgn x y2 hn
        rw[hg',hn'] at this
        rw[<- nI (qL this).1]
        exact SK
      ·rw[e] at hpc
       cases hpc with
       | yZ x' y' hn' hx' hy' hg'=>
        have:=hgn x y2 hn
        rw[hg',hn'] at this
        rw[<- nI (qL this).2]
        exact SK
      ·rw[e] at hpc
       have hii:i'=i:=nI (e2.symm.trans hmain)
       subst hii
       cases hpc with
       | wY x' y' c' d' hn' hx' hy' hm' Wh hc' hd' f1 t1' ZR l1 n1=>
        rw[<- hE.pq _ hi',hn'] at hn
        obtain⟨ex,ey⟩:=qL hn
        have ex:=nI ex
        have ey:=nI ey
        subst ex
        subst ey
        rw[<- hE.pq _ hx,Wh] at hn2
        obtain⟨ec,ed⟩:=qL hn2
        have ec:=nI ec
        have ed:=nI ed
        subst ec
        subst ed
        exact⟨f1,Nat.lt_of_lt_of_le l1 h1.ext.len,by rw[h1.ext.pq f1 l1];exact n1,SK⟩
     ·exact Or.inl h
    ·exact Or.inr (h.ext hG.ok h1.gd.ok hw2.ext)
   ·rcases List.mem_append.1 hj with hj | hj
    ·exact hw2.kid hk j hj
    ·obtain rfl:=List.mem_singleton.1 hj
     exact⟨y,hy,hpv⟩
theorem CF {B:Nat} {d:lK} (hd:og B d) {R:Rs} {s:SQ} (hG:Gd R) (hB:R.vs<=B) (hq:eD R.t.length s) (hr:Ok s.1):tV B R s (iU d R s):=by
 unfold iU
 rw[if_neg (by rw[jE hr hq];simp)]
 by_cases fD:(aL R.t s.1 s.2).1=14
 ·rw[if_pos fD]
  exact xB hd hG.ok hr hq fD _ R [] hG hB (Ext.refl _) (fun c h=>h) (fun c h=>Or.inl h) (fun j hj=>by cases hj)
 rw[if_neg fD]
 have hf:=tu hG.ok hr (jE hr hq) fD
 have nZ:=MO hG.ok hr (jN.2 hq) fD
 by_cases he:(aH R.t s.1 s.2 (aL R.t s.1 s.2).1 (aL R.t s.1 s.2).2).2.2≠0
 ·rw[if_pos he,Cq he]
  exact⟨Wy.refl _ hG hB _,fun h=>absurd h he⟩
 rw[if_neg he]
 have he:(aH R.t s.1 s.2 (aL R.t s.1 s.2).1 (aL R.t s.1 s.2).2).2.2=0:=by simpa using he
 obtain⟨gH,hE1,_,_⟩:=mX hG.ok hr hq hf he
 exact tV.trans (Wy.grow s hG hB gH hE1 0) (CB (R:=⟨_,R.st,R.vs⟩) hd hG.ok hr hq hf he (hG.grow gH hE1) hB (Ext.refl _) (fun h=>by omega))
theorem tV.snoc {B:Nat} {R R0:Rs} {s:SQ} {q:Rs × Int × Stp} (h:tV B R s q) (h0:q.2.1=0) (ht:R0.t=R.t) (hst:R0.st=R.st) (hvs:R.vs=R0.vs+1) (hn:look R0.st s=none):qK B R0 s (⟨q.1.t,q.1.st ++ [q.2.2],q.1.vs⟩,0,q.1.st.length):=by
 obtain⟨e1,e2,e3⟩:=h.uX h0
 obtain⟨l,a1,a2⟩:=h.way.pre
 have hnew:∀ x ∈ q.1.st,x.s≠s:=fun x hx hxs=>by
  rw[a1] at hx
  rcases List.mem_append.1 hx with hx | hx
  ·exact(uV _ rfl).1 hn x (by rw[hst];exact hx) hxs
  ·obtain⟨W,hW⟩:=Pk h.way.gd.ok
   have:=a2 W hW x hx
   rw[hxs] at this
   omega
 refine⟨by rw[ht];exact h.way.ext,⟨h.way.gd.ok,fun x hx => ?_,fun i j x y hx hy hs => ?_,fun i x hx => ?_⟩,⟨l ++ [q.2.2],by rw[hst];simp only;rw[a1,List.append_assoc],fun W hW x hx => ?_⟩,fun _ => ?_,⟨by have:=h.way.vs.1;simp only;omega,h.way.vs.2⟩,?_⟩
 ·rcases List.mem_append.1 hx with hx | hx
  ·exact h.way.gd.uX x hx
  ·obtain rfl:=List.mem_singleton.1 hx
   exact e2
 ·rcases vR hx with hx | ⟨hi,rfl⟩
  ·rcases vR hy with hy | ⟨hj,rfl⟩
   ·exact h.way.gd.one i j x y hx hy hs
   ·exact absurd (hs.trans e1) (hnew x (List.mem_of_getElem? hx))
  ·rcases vR hy with hy | ⟨hj,rfl⟩
   ·exact absurd (hs.symm.trans e1) (hnew y (List.mem_of_getElem? hy))
   ·omega
 ·show uW ((q.1.st ++ [q.2.2]).take i) x.pv x.kd
  rcases vR hx with hx | ⟨hi,rfl⟩
  ·have hlt:=(List.getElem?_eq_some_iff.1 hx).1
   rw[List.take_append_of_le_length (by omega)]
   exact h.way.gd.kid i x hx
  ·rw[hi,List.take_left]
   exact e3
 ·rcases List.mem_append.1 hx with hx | hx
  ·exact Nat.le_of_lt (a2 W hW x hx)
  ·obtain rfl:=List.mem_singleton.1 hx
   rw[e1]
   exact Nat.le_refl _
 ·show look (q.1.st ++ [q.2.2]) s=_
  rw[pE,if_pos e1]
 ·have h1:=h.way.ct.1
  have h2:=h.way.ct.2 h0
  have h3:R0.st.length=R.st.length:=by rw[hst]
  simp only[List.length_append,List.length_singleton]
  refine⟨by omega,fun _=>by omega⟩
theorem qM (B:Nat):∀ n,og B (cu B n)
 | 0=>fun R s hG hB hq hr=>by
  unfold cu
  cases hl:look R.st s with
  | some p=>exact⟨Ext.refl _,hG,⟨[],by simp,fun _ _ x hx=>by cases hx⟩,fun _=>hl,⟨Nat.le_refl _,hB⟩,⟨by simp only;omega,fun _=>by simp only;omega⟩⟩
  | none=>exact⟨Ext.refl _,hG,⟨[],by simp,fun _ _ x hx=>by cases hx⟩,fun h=>(by cases h),⟨Nat.le_refl _,hB⟩,⟨by simp only;omega,fun _=>by simp only;omega⟩⟩
 | n+1=>fun R s hG hB hq hr=>by
  unfold cu
  cases hl:look R.st s with
  | some p=>exact⟨Ext.refl _,hG,⟨[],by simp,fun _ _ x hx=>by cases hx⟩,fun _=>hl,⟨Nat.le_refl _,hB⟩,⟨by simp only;omega,fun _=>by simp only;omega⟩⟩
  | none=>
   simp only
   by_cases hv:R.vs=B
   ·rw[if_pos hv]
    exact⟨Ext.refl _,hG,⟨[],by simp,fun _ _ x hx=>by cases hx⟩,fun h=>(by cases h),⟨Nat.le_refl _,hB⟩,⟨by simp only;omega,fun _=>by simp only;omega⟩⟩
   rw[if_neg hv]
   have hG1:Gd ⟨R.t,R.st,R.vs+1⟩:=⟨hG.ok,hG.uX,hG.one,hG.kid⟩
   have h1:=CF (qM B n) (R:=⟨R.t,R.st,R.vs+1⟩) (s:=s) hG1 (by simp only;omega) hq hr
   generalize iU (cu B n) ⟨R.t,R.st,R.vs+1⟩ s=q at *
   by_cases he:q.2.1≠0
   ·rw[if_pos he]
    obtain⟨l,a1,a2⟩:=h1.way.pre
    have a3:=h1.way.ct.1
    have a4:=h1.way.vs
    simp only at a3 a4
    exact⟨h1.way.ext,h1.way.gd,⟨l,a1,fun W hW x hx=>Nat.le_of_lt (a2 W hW x hx)⟩,fun h=>absurd h he,⟨by simp only;omega,a4.2⟩,⟨by simp only;omega,fun h=>absurd h he⟩⟩
   ·rw[if_neg he]
    exact tV.snoc h1 (by simpa using he) rfl rfl rfl hl
open Go.RowKit Go.Shelf Go.Maps
theorem EX {α:Type} (f:α->List Value) (n:Nat):∀ (l:List α),(∀ x ∈ l,(f x).length=n)->∀ (i:Nat) (hi:i<l.length) (j:Nat),j<n->(l.flatMap f)[i * n+j]?=(f l[i])[j]?
 | [],_,_,hi,_,_=>absurd hi (by simp)
 | x :: l,hl,0,_,j,hj=>by
  have h1:=hl x (List.mem_cons_self ..)
  rw[List.flatMap_cons,Nat.zero_mul,Nat.zero_add,List.getElem?_append_left (by omega)]
  rfl
 | x :: l,hl,i+1,hi,j,hj=>by
  have h1:=hl x (List.mem_cons_self ..)
  have e:(i+1) * n+j=n+(i * n+j):=by rw[Nat.add_mul];omega
  rw[List.flatMap_cons,List.getElem?_append_right (by omega),h1,e,Nat.add_sub_cancel_left,EX f n l (fun y hy=>hl y (List.mem_cons_of_mem _ hy)) i (by simpa using hi) j hj]
  rfl
theorem wK (r:List Nat) (g:Int):(ak r g).toList=Bt.bK r ++ [.int .i64 g]:=by simp[ak,Bt.bK,Bt.aD]
theorem SL {w:World} {q:Nat} {l:List SQ} {T:TypeId} (h:Cl w q (bH l) T) (hl:∀ s ∈ l,s.1.length=16) {i:Nat} (hi:i<l.length):iY w q (i * 17) l[i].1 l[i].2:=fun j v hv=>by
 have h16:=hl _ (List.getElem_mem hi)
 have hj:=(List.getElem?_eq_some_iff.1 hv).1
 have hj':j<17:=by simp[Bt.bK,h16] at hj;omega
 rw[Cl.cell h]
 show(bH l)[i * 17+j]?=some v
 unfold bH
 rw[List.getElem?_toArray,EX (fun s:SQ=>(ak s.1 s.2).toList) 17 l (fun s hs=>by rw[wK];simp[Bt.bK,hl s hs]) i hi j hj',wK]
 exact hv
theorem kL {ops:Array Oper} {rest:List Oper} {o:Oper} {a:Act} {Q:Exit->Act->World->Prop} (w:World) (hg:Region.wanted o (yielded ops a.tmps)=true) (x:Operand) (hop:o.op=Op.load 27 x) (b k:Nat) (hx:a.eval x=.pointer (some ⟨b,k,none⟩)) {r:List Nat} {g:Int} (h:iY w b k r g) (hs:r.length=16)
 (hK:wpList Tryz.prog ops Q rest (a.put o.dst (.agg (ak r g))) w):wpList Tryz.prog ops Q (o :: rest) a w:=by
 refine Bt.wpList_want hg fun K' hK' => ?_
 have hrun:=jM w b k h hs
 unfold Oper.wp
 simp[execOp,hop,hx,hrun,Result.andThen]
 exact hK' _ _ hK
theorem eu.form {w:World} {sv:Value} {l:List SQ} (h:eu sv l w):∃ p c,sv=.slice p l.length c:=by
 rcases h with ⟨rfl,rfl⟩ | ⟨q,rfl,_⟩
 ·exact⟨_,_,rfl⟩
 ·exact⟨_,_,rfl⟩
theorem eu.later {w w':World} {sv:Value} {l:List SQ} (h:eu sv l w) (hb:Below w.heap.size w w'):eu sv l w':=by
 rcases h with h | ⟨q,h1,h2⟩
 ·exact Or.inl h
 ·exact Or.inr ⟨q,h1,h2.later hb⟩
theorem eu.at {w:World} {p:Option Addr} {n c:Nat} {l:List SQ} (h:eu (.slice p n c) l w) (hl:∀ s ∈ l,s.1.length=16) {i:Nat} (hi:i<l.length):∃ q,p=some ⟨q,0,none⟩/\iY w q (i * 17) l[i].1 l[i].2:=by
 rcases h with ⟨rfl,_⟩ | ⟨q,h1,h2⟩
 ·simp at hi
 ·obtain⟨rfl,_,_⟩:=Value.slice.inj h1
  exact⟨q,rfl,SL h2 hl hi⟩
end Go.Proofs.YtkejippimkjjaaaGreatDoor

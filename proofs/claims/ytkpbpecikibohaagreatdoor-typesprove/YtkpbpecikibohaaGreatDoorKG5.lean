import Derived.Test.YtkpbpecikibohaaGreatDoorKG2
import Derived.Test.YtkpbpecikibohaaGreatDoorZG6
set_option linter.unusedSimpArgs false
namespace Go.Proofs.YtkpbpecikibohaaGreatDoor
open Fm (Nd)
open Bt.Bs (Ok wd)
theorem PV {t:List Nd} (hO:Fm.Ok t) {r:List Nat} (hr:Ok r) {g:Int} (hq:iT t r g=true) (iw:(aZ t r g).1≠14):(aZ t r g).1<=10:=by
 have e:tl1 r g (cZ t r g) iH=iH.flatMap (fl t r g):=Eu hO hr hq iH (fun u hu=>List.mem_append_left _ hu)
 unfold aZ at *
 rw[e] at iw |-
 cases hh:iH.flatMap (fl t r g) with
 | nil=>rw[hh] at iw;exact absurd rfl iw
 | cons x l=>
  have hx:x ∈ iH.flatMap (fl t r g):=by rw[hh];exact List.mem_cons_self ..
  obtain⟨u,hu,hx⟩:=List.mem_flatMap.1 hx
  unfold fl at hx
  obtain⟨i,_,hx⟩:=List.mem_flatMap.1 hx
  unfold wI at hx
  rw[List.drop_zero] at hx
  obtain⟨k,hk,hx⟩:=List.mem_flatMap.1 hx
  unfold wH at hx
  split at hx
  ·obtain rfl:=List.mem_singleton.1 hx
   show k<=10
   have:∀ u ∈ iH,∀ k ∈ u,k<=10:=by decide
   exact this u hu k hk
  ·cases hx
theorem EJ {t:List Nd} (hO:Fm.Ok t) {r:List Nat} (hr:Ok r) {g:Int} (hq:iT t r g=true) {c:Int × Int} (hc:c ∈ fT t r g):11<=c.1:=by
 rw[M6 hO hr hq] at hc
 split at hc
 ·rcases List.mem_append.1 hc with hc | hc
  ·split at hc
   ·rcases List.mem_cons.1 hc with rfl | hc
    ·exact Int.le_refl 11
    ·obtain rfl:=List.mem_singleton.1 hc
     show(11:Int)<=12
     decide
   ·cases hc
  ·unfold QA at hc
   obtain⟨i,_,hx⟩:=List.mem_flatMap.1 hc
   unfold wI at hx
   rw[List.drop_zero] at hx
   obtain⟨k,hk,hx⟩:=List.mem_flatMap.1 hx
   unfold wH at hx
   split at hx
   ·obtain rfl:=List.mem_singleton.1 hx
    obtain rfl:=List.mem_singleton.1 hk
    show(11:Int)<=13
    decide
   ·cases hx
 ·cases hc
theorem nE {t:List Nd} (hO:Fm.Ok t) {s:SQ} (hr:Ok s.1) (hq:eH t.length s) {ru main:Int} (hf:findF t s.1 s.2 ru main=true) (h0:(aO t s.1 s.2 ru main).2.2=0) :
 Fm.Ok (aO t s.1 s.2 ru main).2.1/\Ext t (aO t s.1 s.2 ru main).2.1/\(∀ p ∈ (aO t s.1 s.2 ru main).1,eH (aO t s.1 s.2 ru main).2.1.length p/\Ok p.1)/\∀ W,Wt (aO t s.1 s.2 ru main).2.1 W->∀ p ∈ (aO t s.1 s.2 ru main).1,mu W p<mu W s:=by
 obtain⟨i,_,hi,hpc,nK⟩:=uf hO hr (iy hr hq) hf h0
 have h1:=O8 nK hr hi hpc hq
 have h2:=(wB (t:=t) hr s.2 ru main).1
 exact⟨nK,wE hpc,fun p hp=>⟨h1.2 p hp,h2 p hp⟩,fun W hW=>Sj nK hr hi hpc hW⟩
theorem wJ.same {B:Nat} {R:Rs} {s:SQ} {q:Rs × Int × Nat} (h:wJ B R s q):Gd q.1:=h.gd
structure vo (B:Nat) (R:Rs) (s:SQ) (q:Rs × Int × Stp):Prop where
 way:Wy B R s q.1 q.2.1
 xQ:q.2.1=0->q.2.2.s=s/\Hl q.1.t q.2.2/\bg q.1.st q.2.2.pv q.2.2.kd
theorem vo.trans {B:Nat} {R R1:Rs} {s:SQ} {q:Rs × Int × Stp} (h:Wy B R s R1 0) (k:vo B R1 s q):vo B R s q:=⟨h.trans k.way,k.xQ⟩
theorem EK {B:Nat} {d:lX} (hd:qD B d) {t0:List Nd} (hO:Fm.Ok t0) {s:SQ} (hr:Ok s.1) (hq:eH t0.length s) {ru main:Int} (hf:findF t0 s.1 s.2 ru main=true) (h0:(aO t0 s.1 s.2 ru main).2.2=0) {R:Rs} (hG:Gd R) (hB:R.vs<=B) (hE:Ext (aO t0 s.1 s.2 ru main).2.1 R.t) (hv:11<=ru->∀ p ps,(aO t0 s.1 s.2 ru main).1=p :: ps->Val R.t p) :
 vo B R s (fE d R ⟨s,false,ru,main,[]⟩ (aO t0 s.1 s.2 ru main).1):=by
 obtain⟨i,_,hi,hpc,nK⟩:=uf hO hr (iy hr hq) hf h0
 obtain⟨_,hE0,hp,hm⟩:=nE hO hr hq hf h0
 obtain⟨a1,a2⟩:=Ew hd (aO t0 s.1 s.2 ru main).1 R ⟨s,false,ru,main,[]⟩ hG hB (fun p hh=>⟨jr hE (hp p hh).1,(hp p hh).2⟩) (fun W hW p hh=>hm W (hW.ext hE) p hh) rfl (fun j hj=>by cases hj)
 refine⟨a1,fun he => ?_⟩
 obtain⟨b1,b2,b3⟩:=a2 he
 have Hr:=hE.trans a1.ext
 have Ht:eH (aO t0 s.1 s.2 ru main).2.1.length s:=jr hE0 hq
 refine⟨b1,⟨by rw[b1];exact hr,by rw[b1];exact jr Hr Ht,fun hy => ?_,fun hy => ?_⟩,b2⟩
 ·rcases b3 with ⟨_,b4⟩ | ⟨b4,_⟩
  ·rw[b1]
   exact(Vx nK hr hi hq hpc fun p hh=>(b4 p hh).back nK a1.gd.ok (hp p hh).1 Hr).ext Hr
  ·rw[hy] at b4;cases b4
 ·rcases b3 with ⟨b4,_⟩ | ⟨_,p,hh,b4⟩
  ·rw[hy] at b4;cases b4
  ·rw[b1]
   have hb:=b4.back Hr
   have Xw:ru<11->Ref (aO t0 s.1 s.2 ru main).2.1 s:=fun hlt=>ML nK hr hi hpc (by omega) (by omega) hh (fun h=>by omega) hb
   by_cases hlt:ru<11
   ·exact(Xw hlt).ext nK a1.gd.ok Ht Hr
   have hv:=hv (by omega)
   generalize hl:(aO t0 s.1 s.2 ru main).1=l at *
   generalize (aO t0 s.1 s.2 ru main).2.1=t' at *
   have hnot:∀ p' ps,l=p' :: ps->p≠p':=fun p' ps e1 e2=>by
    subst e2
    exact G6 ((hv p ps e1).ext a1.ext) b4
   refine(ML nK hr hi hpc ?_ ?_ hh ?_ hb).ext nK a1.gd.ok Ht Hr
   ·rintro rfl
    cases hpc
    exact hnot _ _ rfl (List.mem_singleton.1 hh)
   ·rintro rfl
    cases hpc
    exact hnot _ _ rfl (List.mem_singleton.1 hh)
   ·rintro rfl
    cases hpc
    rcases List.mem_cons.1 hh with e | e
    ·exact absurd e (hnot _ _ rfl)
    ·rw[List.mem_singleton.1 e]
     exact⟨rfl,_,rfl⟩
def yF (T:List Nd) (s:SQ):Prop:=eH T.length s/\Ref T s
theorem yF.ext {t t1:List Nd} (hO:Fm.Ok t) (iL:Fm.Ok t1) {s:SQ} (h:yF t s) (e:Ext t t1):yF t1 s:=⟨jr e h.1,h.2.ext hO iL h.1 e⟩
structure Na (t T:List Nd) (r:List Nat) (g:Int) (c:Int × Int):Prop where
 c11:c.1=11->∀ x y:Nat,ay t g=aH 4 x y->yF T (r,(x:Int))
 c12:c.1=12->∀ x y:Nat,ay t g=aH 4 x y->yF T (r,(y:Int))
 c13:c.1=13->∀ i x y c2 d2:Nat,c.2=(i:Int)->i<t.length->ay t (i:Int)=aH 5 x y->x<t.length->ay t (x:Int)=aH 5 c2 d2->∃ f,f<T.length/\ay T (f:Int)=aH 5 d2 y/\yF T (Bt.Bs.put (Bt.Bs.drop r i) f,(x:Int))
theorem Na.ext {t T T1:List Nd} {r:List Nat} {g:Int} {c:Int × Int} (h:Na t T r g c) (hO:Fm.Ok T) (iL:Fm.Ok T1) (e:Ext T T1):Na t T1 r g c :=
 ⟨fun h1 x y hn=>(h.c11 h1 x y hn).ext hO iL e,fun h1 x y hn=>(h.c12 h1 x y hn).ext hO iL e,fun h1 i x y c2 d2 h2 h3 h4 h5 h6=>by
  obtain⟨f,a1,a2,a3⟩:=h.c13 h1 i x y c2 d2 h2 h3 h4 h5 h6
  exact⟨f,Nat.lt_of_lt_of_le a1 e.len,by rw[e.p8 f a1];exact a2,a3.ext hO iL e⟩⟩
theorem Au {t:List Nd} {r:List Nat} {g:Int} {i:Nat} {ru:Int} {l:List SQ} {t':List Nd} (rH:11<=ru) (h:PC t r g i ru l t'):∃ p ps,l=p :: ps:=by
 cases h <;> first|exact⟨_,_,rfl⟩ | (exfalso;revert rH;decide)
theorem nM {a b:Nat} (h:(a:Int)=(b:Int)):a=b:=by omega
theorem EM {B:Nat} {d:lX} (hd:qD B d) {t0:List Nd} (hO:Fm.Ok t0) {s:SQ} (hr:Ok s.1) (hq:eH t0.length s) (iw:(aZ t0 s.1 s.2).1=14):∀ (cs:List (Int × Int)) (R:Rs) (ks:List Nat),Gd R->R.vs<=B->Ext t0 R.t->(∀ c ∈ cs,c ∈ fT t0 s.1 s.2)->(∀ c ∈ fT t0 s.1 s.2,c ∈ cs\/Na t0 R.t s.1 s.2 c)->bg R.st false ks->vo B R s (lg d s R cs ks)
 | [],R,ks,hG,hB,hE,_,hc,hk=>by
  unfold lg
  refine⟨Wy.refl _ hG hB _,fun _=>⟨rfl,⟨hr,jr hE hq,fun h=>(by cases h),fun _ => ?_⟩,hk⟩⟩
  have hh:=SF hO hr hq iw
  have hc:∀ c ∈ fT t0 s.1 s.2,Na t0 R.t s.1 s.2 c:=fun c hm=>by
   rcases hc c hm with h | h
   ·cases h
   ·exact h
  refine MN hO hG.ok hE hr hq (SE hO hr hq iw) ⟨fun x y hn => ?_,fun i x y c2 d2 hi hm hn hn2 => ?_⟩
  ·have h4:(ay t0 s.2).k=4:=by rw[hn];rfl
   exact⟨((hc _ (hh.1 h4).1).c11 rfl x y hn).2,((hc _ (hh.1 h4).2).c12 rfl x y hn).2⟩
  ·have hxi:x<i:=by
    have hk5:t0[i].k=5:=by rw[<- bJ hi,hn];rfl
    obtain⟨x',y',e,lx,_,_,_⟩:=fI hO hi hk5 (by omega)
    rw[hn] at e
    have:=nM (rP e).1
    omega
   obtain⟨f,a1,a2,a3⟩:=(hc _ (hh.2 i x y c2 d2 hi hm hn hxi hn2)).c13 rfl i x y c2 d2 rfl hi hn (by omega) hn2
   exact⟨f,a1,a2,a3.2⟩
 | c :: cs,R,ks,hG,hB,hE,hcs,hc,hk=>by
  have hcm:=hcs c (List.mem_cons_self ..)
  have hq1:=jr hE hq
  have rH:=EJ hO hr (mh.2 hq) hcm
  have hf0:=Ar hO hr hcm
  have hf:findF R.t s.1 s.2 c.1 c.2=true:=by
   have hh:Fm.has t0 c.2=true:=by
    unfold findF at hf0
    simp only[Bool.and_eq_true] at hf0
    exact hf0.1.1
   have hh:=Fm.dJ.1 hh
   obtain⟨n,hn⟩:∃ n:Nat,c.2=n:=⟨c.2.toNat,by omega⟩
   rw[hn] at hf0 |-
   exact yE hO hE (by omega) hf0
  unfold lg
  by_cases he:(aO R.t s.1 s.2 c.1 c.2).2.2≠0
  ·rw[if_pos he,Ey he]
   exact⟨Wy.refl _ hG hB _,fun h=>absurd h he⟩
  rw[if_neg he]
  have he:(aO R.t s.1 s.2 c.1 c.2).2.2=0:=by simpa using he
  obtain⟨iL,hE1,hp,hm⟩:=nE hG.ok hr hq1 hf he
  have hfr:=fun R2 (hG2:Gd R2) hB2 hE2=>EK (R:=R2) hd hG.ok hr hq1 hf he hG2 hB2 hE2
  obtain⟨i,hmain,hi,hpc,_⟩:=uf hG.ok hr (iy hr hq1) hf he
  generalize hpl:(aO R.t s.1 s.2 c.1 c.2).1=l at *
  generalize (aO R.t s.1 s.2 c.1 c.2).2.1=t1 at *
  obtain⟨p,ps,rfl⟩:∃ p ps,l=p :: ps:=Au rH hpc
  rw[show(p :: ps).headD (Bt.Bs.zero,0)=p from rfl]
  have hG1:=hG.grow iL hE1
  have hw1:Wy B R s ⟨t1,R.st,R.vs⟩ 0:=Wy.grow s hG hB iL hE1 0
  have h1:=hd ⟨t1,R.st,R.vs⟩ p hG1 hB (hp p (List.mem_cons_self ..)).1 (hp p (List.mem_cons_self ..)).2
  generalize ug:d ⟨t1,R.st,R.vs⟩ p=q at *
  have hw:=h1.way (s:=s) (fun W hW=>hm W hW p (List.mem_cons_self ..))
  by_cases he2:q.2.1≠0
  ·rw[if_pos he2]
   exact⟨hw1.trans hw,fun h=>absurd h he2⟩
  rw[if_neg he2]
  have he2:q.2.1=0:=by simpa using he2
  rw[he2] at hw
  have hw2:=hw1.trans hw
  obtain⟨y,hy,hys,htr⟩:=h1.at he2
  rw[getD_some hy]
  by_cases hpv:y.pv=true
  ·rw[if_pos hpv]
   have hv:=htr.yes hpv
   rw[hys] at hv
   exact vo.trans hw2 (hfr q.1 h1.gd h1.vs.2 h1.ext fun _ p' ps' e=>by
    injection e with e1 e2
    rw[<- e1]
    exact hv)
  ·rw[if_neg hpv]
   have hpv:y.pv=false:=by simpa using hpv
   have hv:=htr.no hpv
   have hrg:=htr.rg
   rw[hys] at hv hrg
   refine vo.trans hw2 (EM hd hO hr hq iw cs q.1 (ks ++ [q.2.2]) h1.gd h1.vs.2 (hE.trans hw2.ext) (fun c' hc'=>hcs c' (List.mem_cons_of_mem _ hc')) (fun c' hc' => ?_) (fun j hj => ?_))
   ·rcases hc c' hc' with h | h
    ·rcases List.mem_cons.1 h with rfl | h
     ·refine Or.inr ?_
      have V8:yF q.1.t p:=⟨hrg,hv⟩
      have hgn:∀ x y:Nat,ay t0 s.2=aH 4 x y->ay R.t s.2=aH 4 x y:=fun x y hn=>by
       have h2:0<=s.2/\s.2<t0.length:=hq.2
       obtain⟨gn,hgn⟩:∃ gn:Nat,s.2=gn:=⟨s.2.toNat,by omega⟩
       rw[hgn] at hn |-
       rw[hE.p8 gn (by omega)]
       exact hn
      refine⟨fun e x y2 hn => ?_,fun e x y2 hn => ?_,fun e i' x y2 c2 d2 e2 hi' hn hx hn2 => ?_⟩
      ·rw[e] at hpc
       cases hpc with
       | Ao x' y' hn' hx' hy' hg'=>
        have:=hgn x y2 hn
        rw[hg',hn'] at this
        rw[<- nM (rP this).1]
        exact V8
      ·rw[e] at hpc
       cases hpc with
       | Ap x' y' hn' hx' hy' hg'=>
        have:=hgn x y2 hn
        rw[hg',hn'] at this
        rw[<- nM (rP this).2]
        exact V8
      ·rw[e] at hpc
       have hii:i'=i:=nM (e2.symm.trans hmain)
       subst hii
       cases hpc with
       | yx x' y' c' d' hn' hx' hy' hm' ZQ hc' hd' f1 t1' e1' l1 n1=>
        rw[<- hE.p8 _ hi',hn'] at hn
        obtain⟨ex,ey⟩:=rP hn
        have ex:=nM ex
        have ey:=nM ey
        subst ex
        subst ey
        rw[<- hE.p8 _ hx,ZQ] at hn2
        obtain⟨ec,ed⟩:=rP hn2
        have ec:=nM ec
        have ed:=nM ed
        subst ec
        subst ed
        exact⟨f1,Nat.lt_of_lt_of_le l1 h1.ext.len,by rw[h1.ext.p8 f1 l1];exact n1,V8⟩
     ·exact Or.inl h
    ·exact Or.inr (h.ext hG.ok h1.gd.ok hw2.ext)
   ·rcases List.mem_append.1 hj with hj | hj
    ·exact hw2.kid hk j hj
    ·obtain rfl:=List.mem_singleton.1 hj
     exact⟨y,hy,hpv⟩
theorem EN {B:Nat} {d:lX} (hd:qD B d) {R:Rs} {s:SQ} (hG:Gd R) (hB:R.vs<=B) (hq:eH R.t.length s) (hr:Ok s.1):vo B R s (jF d R s):=by
 unfold jF
 rw[if_neg (by rw[iy hr hq];simp)]
 by_cases iw:(aZ R.t s.1 s.2).1=14
 ·rw[if_pos iw]
  exact EM hd hG.ok hr hq iw _ R [] hG hB (Ext.refl _) (fun c h=>h) (fun c h=>Or.inl h) (fun j hj=>by cases hj)
 rw[if_neg iw]
 have hf:=uR hG.ok hr (iy hr hq) iw
 have rH:=PV hG.ok hr (mh.2 hq) iw
 by_cases he:(aO R.t s.1 s.2 (aZ R.t s.1 s.2).1 (aZ R.t s.1 s.2).2).2.2≠0
 ·rw[if_pos he,Ey he]
  exact⟨Wy.refl _ hG hB _,fun h=>absurd h he⟩
 rw[if_neg he]
 have he:(aO R.t s.1 s.2 (aZ R.t s.1 s.2).1 (aZ R.t s.1 s.2).2).2.2=0:=by simpa using he
 obtain⟨iL,hE1,_,_⟩:=nE hG.ok hr hq hf he
 exact vo.trans (Wy.grow s hG hB iL hE1 0) (EK (R:=⟨_,R.st,R.vs⟩) hd hG.ok hr hq hf he (hG.grow iL hE1) hB (Ext.refl _) (fun h=>by omega))
theorem vo.snoc {B:Nat} {R R0:Rs} {s:SQ} {q:Rs × Int × Stp} (h:vo B R s q) (h0:q.2.1=0) (ht:R0.t=R.t) (hst:R0.st=R.st) (hvs:R.vs=R0.vs+1) (hn:look R0.st s=none):wJ B R0 s (⟨q.1.t,q.1.st ++ [q.2.2],q.1.vs⟩,0,q.1.st.length):=by
 obtain⟨e1,e2,e3⟩:=h.xQ h0
 obtain⟨l,a1,a2⟩:=h.way.pre
 have hnew:∀ x ∈ q.1.st,x.s≠s:=fun x hx hxs=>by
  rw[a1] at hx
  rcases List.mem_append.1 hx with hx | hx
  ·exact(M8 _ rfl).1 hn x (by rw[hst];exact hx) hxs
  ·obtain⟨W,hW⟩:=Si h.way.gd.ok
   have:=a2 W hW x hx
   rw[hxs] at this
   omega
 refine⟨by rw[ht];exact h.way.ext,⟨h.way.gd.ok,fun x hx => ?_,fun i j x y hx hy hs => ?_,fun i x hx => ?_⟩,⟨l ++ [q.2.2],by rw[hst];simp only;rw[a1,List.append_assoc],fun W hW x hx => ?_⟩,fun _ => ?_,⟨by have:=h.way.vs.1;simp only;omega,h.way.vs.2⟩,?_⟩
 ·rcases List.mem_append.1 hx with hx | hx
  ·exact h.way.gd.xQ x hx
  ·obtain rfl:=List.mem_singleton.1 hx
   exact e2
 ·rcases wY hx with hx | ⟨hi,rfl⟩
  ·rcases wY hy with hy | ⟨hj,rfl⟩
   ·exact h.way.gd.one i j x y hx hy hs
   ·exact absurd (hs.trans e1) (hnew x (List.mem_of_getElem? hx))
  ·rcases wY hy with hy | ⟨hj,rfl⟩
   ·exact absurd (hs.symm.trans e1) (hnew y (List.mem_of_getElem? hy))
   ·omega
 ·show bg ((q.1.st ++ [q.2.2]).take i) x.pv x.kd
  rcases wY hx with hx | ⟨hi,rfl⟩
  ·have hlt:=(List.getElem?_eq_some_iff.1 hx).1
   rw[List.take_append_of_le_length (by omega)]
   exact h.way.gd.kid i x hx
  ·rw[hi,List.take_left]
   exact e3
 ·rcases List.mem_append.1 hx with hx | hx
  ·exact Nat.le_of_lt (a2 W hW x hx)
  ·obtain rfl:=List.mem_singleton.1 hx
   rw[e1]
   exact Nat.le_refl _
 ·show look (q.1.st ++ [q.2.2]) s=_
  rw[qg,if_pos e1]
 ·have h1:=h.way.ct.1
  have h2:=h.way.ct.2 h0
  have h3:R0.st.length=R.st.length:=by rw[hst]
  simp only[List.length_append,List.length_singleton]
  refine⟨by omega,fun _=>by omega⟩
theorem rR (B:Nat):∀ n,qD B (dI B n)
 | 0=>fun R s hG hB hq hr=>by
  unfold dI
  cases hl:look R.st s with
  | some p=>exact⟨Ext.refl _,hG,⟨[],by simp,fun _ _ x hx=>by cases hx⟩,fun _=>hl,⟨Nat.le_refl _,hB⟩,⟨by simp only;omega,fun _=>by simp only;omega⟩⟩
  | none=>exact⟨Ext.refl _,hG,⟨[],by simp,fun _ _ x hx=>by cases hx⟩,fun h=>(by cases h),⟨Nat.le_refl _,hB⟩,⟨by simp only;omega,fun _=>by simp only;omega⟩⟩
 | n+1=>fun R s hG hB hq hr=>by
  unfold dI
  cases hl:look R.st s with
  | some p=>exact⟨Ext.refl _,hG,⟨[],by simp,fun _ _ x hx=>by cases hx⟩,fun _=>hl,⟨Nat.le_refl _,hB⟩,⟨by simp only;omega,fun _=>by simp only;omega⟩⟩
  | none=>
   simp only
   by_cases hv:R.vs=B
   ·rw[if_pos hv]
    exact⟨Ext.refl _,hG,⟨[],by simp,fun _ _ x hx=>by cases hx⟩,fun h=>(by cases h),⟨Nat.le_refl _,hB⟩,⟨by simp only;omega,fun _=>by simp only;omega⟩⟩
   rw[if_neg hv]
   have hG1:Gd ⟨R.t,R.st,R.vs+1⟩:=⟨hG.ok,hG.xQ,hG.one,hG.kid⟩
   have h1:=EN (rR B n) (R:=⟨R.t,R.st,R.vs+1⟩) (s:=s) hG1 (by simp only;omega) hq hr
   generalize jF (dI B n) ⟨R.t,R.st,R.vs+1⟩ s=q at *
   by_cases he:q.2.1≠0
   ·rw[if_pos he]
    obtain⟨l,a1,a2⟩:=h1.way.pre
    have a3:=h1.way.ct.1
    have a4:=h1.way.vs
    simp only at a3 a4
    exact⟨h1.way.ext,h1.way.gd,⟨l,a1,fun W hW x hx=>Nat.le_of_lt (a2 W hW x hx)⟩,fun h=>absurd h he,⟨by simp only;omega,a4.2⟩,⟨by simp only;omega,fun h=>absurd h he⟩⟩
   ·rw[if_neg he]
    exact vo.snoc h1 (by simpa using he) rfl rfl rfl hl
open Go.RowKit Go.Shelf Go.Maps
theorem Hu {α:Type} (f:α->List Value) (n:Nat):∀ (l:List α),(∀ x ∈ l,(f x).length=n)->∀ (i:Nat) (hi:i<l.length) (j:Nat),j<n->(l.flatMap f)[i * n+j]?=(f l[i])[j]?
 | [],_,_,hi,_,_=>absurd hi (by simp)
 | x :: l,hl,0,_,j,hj=>by
  have h1:=hl x (List.mem_cons_self ..)
  rw[List.flatMap_cons,Nat.zero_mul,Nat.zero_add,List.getElem?_append_left (by omega)]
  rfl
 | x :: l,hl,i+1,hi,j,hj=>by
  have h1:=hl x (List.mem_cons_self ..)
  have e:(i+1) * n+j=n+(i * n+j):=by rw[Nat.add_mul];omega
  rw[List.flatMap_cons,List.getElem?_append_right (by omega),h1,e,Nat.add_sub_cancel_left,Hu f n l (fun y hy=>hl y (List.mem_cons_of_mem _ hy)) i (by simpa using hi) j hj]
  rfl
theorem xR (r:List Nat) (g:Int):(au r g).toList=Bt.bP r ++ [.int .i64 g]:=by simp[au,Bt.bP,Bt.aG]
theorem V9 {w:World} {q:Nat} {l:List SQ} {T:TypeId} (h:Cl w q (bN l) T) (hl:∀ s ∈ l,s.1.length=16) {i:Nat} (hi:i<l.length):og w q (i * 17) l[i].1 l[i].2:=fun j v hv=>by
 have h16:=hl _ (List.getElem_mem hi)
 have hj:=(List.getElem?_eq_some_iff.1 hv).1
 have hj':j<17:=by simp[Bt.bP,h16] at hj;omega
 rw[Cl.cell h]
 show(bN l)[i * 17+j]?=some v
 unfold bN
 rw[List.getElem?_toArray,Hu (fun s:SQ=>(au s.1 s.2).toList) 17 l (fun s hs=>by rw[xR];simp[Bt.bP,hl s hs]) i hi j hj',xR]
 exact hv
theorem zL {ops:Array Oper} {rest:List Oper} {o:Oper} {a:Act} {Q:Exit->Act->World->Prop} (w:World) (hg:Region.wanted o (yielded ops a.tmps)=true) (x:Operand) (hop:o.op=Op.load 53 x) (b k:Nat) (hx:a.eval x=.pointer (some ⟨b,k,none⟩)) {r:List Nat} {g:Int} (h:og w b k r g) (hs:r.length=16)
 (hK:wpList Tryz.prog ops Q rest (a.put o.dst (.agg (au r g))) w):wpList Tryz.prog ops Q (o :: rest) a w:=by
 refine Bt.wpList_want hg fun K' hK' => ?_
 have hrun:=j6 w b k h hs
 unfold Oper.wp
 simp[execOp,hop,hx,hrun,Result.andThen]
 exact hK' _ _ hK
theorem iV.form {w:World} {sv:Value} {l:List SQ} (h:iV sv l w):∃ p c,sv=.slice p l.length c:=by
 rcases h with ⟨rfl,rfl⟩ | ⟨q,rfl,_⟩
 ·exact⟨_,_,rfl⟩
 ·exact⟨_,_,rfl⟩
theorem iV.later {w w':World} {sv:Value} {l:List SQ} (h:iV sv l w) (hb:Below w.heap.size w w'):iV sv l w':=by
 rcases h with h | ⟨q,h1,h2⟩
 ·exact Or.inl h
 ·exact Or.inr ⟨q,h1,h2.later hb⟩
theorem iV.at {w:World} {p:Option Addr} {n c:Nat} {l:List SQ} (h:iV (.slice p n c) l w) (hl:∀ s ∈ l,s.1.length=16) {i:Nat} (hi:i<l.length):∃ q,p=some ⟨q,0,none⟩/\og w q (i * 17) l[i].1 l[i].2:=by
 rcases h with ⟨rfl,_⟩ | ⟨q,h1,h2⟩
 ·simp at hi
 ·obtain⟨rfl,_,_⟩:=Value.slice.inj h1
  exact⟨q,rfl,V9 h2 hl hi⟩
end Go.Proofs.YtkpbpecikibohaaGreatDoor

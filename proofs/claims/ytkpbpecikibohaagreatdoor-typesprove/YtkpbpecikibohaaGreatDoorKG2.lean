import Derived.Test.YtkpbpecikibohaaGreatDoorKG1
import Derived.Test.YtkpbpecikibohaaGreatDoorKZ
set_option linter.unusedSimpArgs false
namespace Go.Proofs.YtkpbpecikibohaaGreatDoor
open Fm (Nd)
open Bt.Bs (Ok wd)
theorem yD {α β:Type} {f:α->List β} {l:List α} (h:l.flatMap f=[]):∀ x ∈ l,f x=[]:=List.flatMap_eq_nil_iff.1 h
theorem PD {t:List Nd} (hO:Fm.Ok t) {r:List Nat} (hr:Ok r) {g:Int} (hq:iT t r g=true) (iw:(aZ t r g).1=14):∀ k:Int,1<=k->k<=10->∀ i:Nat,i<t.length->findF t r g k (i:Int)=false:=by
 have e:tl1 r g (cZ t r g) iH=iH.flatMap (fl t r g):=Eu hO hr hq iH (fun u hu=>List.mem_append_left _ hu)
 have hnil:iH.flatMap (fl t r g)=[]:=by
  unfold aZ at iw
  rw[e] at iw
  cases hh:iH.flatMap (fl t r g) with
  | nil=>rfl
  | cons x l=>
   rw[hh] at iw
   have iw:x.1=14:=iw
   have hx:x ∈ iH.flatMap (fl t r g):=by rw[hh];exact List.mem_cons_self ..
   obtain⟨u,hu,hx⟩:=List.mem_flatMap.1 hx
   unfold fl at hx
   obtain⟨i,_,hx⟩:=List.mem_flatMap.1 hx
   unfold wI at hx
   rw[List.drop_zero] at hx
   obtain⟨k,hk,hx⟩:=List.mem_flatMap.1 hx
   unfold wH at hx
   split at hx
   ·obtain rfl:=List.mem_singleton.1 hx
    have iw:k=14:=iw
    subst iw
    have:∀ u ∈ iH,(14:Int) ∉ u:=by decide
    exact absurd hk (this u hu)
   ·cases hx
 intro k hk1 hk2 i hi
 have hin:∃ u ∈ iH,k ∈ u:=by
  have hc:k=1\/k=2\/k=3\/k=4\/k=5\/k=6\/k=7\/k=8\/k=9\/k=10:=by omega
  rcases hc with rfl | rfl | rfl | rfl | rfl | rfl | rfl | rfl | rfl | rfl <;> decide
 obtain⟨u,hu,hku⟩:=hin
 have h1:=yD hnil u hu
 unfold fl at h1
 have h2:=yD h1 i (List.mem_range.2 hi)
 unfold wI at h2
 rw[List.drop_zero] at h2
 have h3:=yD h2 k hku
 unfold wH at h3
 cases hf:findF t r g k (i:Int)
 ·rfl
 ·rw[hf,if_pos rfl] at h3
  cases h3
theorem wX {r:List Nat} (hr:Ok r) {n:Nat} (hn:n<1024) (h:Bt.Bs.has r n=true):dX r (n:Int)=true:=by
 rw[Ak hr hn]
 unfold Bt.Bs.Dl
 rw[Int.toNat_natCast,h]
 simp
 omega
theorem SE {t:List Nd} (hO:Fm.Ok t) {r:List Nat} (hr:Ok r) {g:Int} (hq:eH t.length (r,g)) (iw:(aZ t r g).1=14):Open t r g:=by
 have hlen:=hO.len
 have hno:=PD hO hr (mh (s:=(r,g)).2 hq) iw
 obtain⟨gn,rfl⟩:∃ gn:Nat,g=gn:=⟨g.toNat,by have h9:0<=g:=hq.2.1;omega⟩
 have hgl:gn<t.length:=by have h9:(gn:Int)<(t.length:Int):=hq.2.2;omega
 have hf:∀ (k:Int) (i:Nat) (hi:i<t.length),1<=k->k<=10->mY r (gn:Int) (k - 1).toNat (bO t (i:Int))=false:=fun k i hi h1 h2=>by
  have h:=hno k h1 h2 i hi
  rw[jX hi,decide_eq_true h1,decide_eq_true (show k<=13 by omega)] at h
  simpa using h
 refine⟨fun n hn hh => ?_,?_,?_⟩
 ·have hin:=wX hr (show n<1024 by omega) hh
  rw[bJ hn]
  have b:∀ (k:Int),1<=k->k<=10->mY r (gn:Int) (k - 1).toNat ⟨n,t[n].k,t[n].l,t[n].r,if t[n].k=5 then (ay t t[n].l).k else 0,if t[n].k=5 then (ay t t[n].l).l else 0,if t[n].k=5 then (ay t t[n].l).r else 0⟩=false:=fun k h1 h2=>by
   have:=hf k n hn h1 h2
   rwa [eZ hn] at this
  rcases Fm.qP hO hn with e | e | e
  ·exact Or.inl e
  ·have h1:((t[n].k == 2) && dX r (n:Int))=false:=b 1 (by omega) (by omega)
   rw[e,hin] at h1
   cases h1
  ·simp only[Fm.jn,Bool.or_eq_true,beq_iff_eq] at e
   rcases e with (e | e) | e
   ·have h1:((t[n].k == 3) && dX r (n:Int))=false:=b 3 (by omega) (by omega)
    rw[e,hin] at h1
    cases h1
   ·have h1:((t[n].k == 4) && dX r (n:Int))=false:=b 10 (by omega) (by omega)
    rw[e,hin] at h1
    cases h1
   ·refine Or.inr ⟨e,?_⟩
    obtain⟨x,y,ex,ey,lx,ly⟩:=kids hO hn (Or.inr (Or.inr e))
    have hx:x<t.length:=by omega
    have b4:(((if t[n].k=5 then (ay t t[n].l).k else 0) == 1) && dX r (n:Int) && dX r t[n].l)=false:=b 4 (by omega) (by omega)
    have b5:(((if t[n].k=5 then (ay t t[n].l).k else 0) == 2) && dX r (n:Int))=false:=b 5 (by omega) (by omega)
    have b6:(((if t[n].k=5 then (ay t t[n].l).k else 0) == 3) && dX r (n:Int))=false:=b 6 (by omega) (by omega)
    have b7:(((if t[n].k=5 then (ay t t[n].l).k else 0) == 4) && dX r (n:Int))=false:=b 7 (by omega) (by omega)
    rw[if_pos e,hin,ex,bJ hx,Bool.and_true] at b4 b5 b6 b7
    rw[ex,bJ hx,Int.toNat_natCast]
    rcases Fm.qP hO hx with e1 | e1 | e1
    ·refine Or.inl ⟨e1,?_⟩
     cases hxh:Bt.Bs.has r x
     ·rfl
     ·rw[e1,wX hr (by omega) hxh] at b4
      cases b4
    ·rw[e1] at b5
     cases b5
    ·simp only[Fm.jn,Bool.or_eq_true,beq_iff_eq] at e1
     rcases e1 with (e1 | e1) | e1
     ·rw[e1] at b6
      cases b6
     ·rw[e1] at b7
      cases b7
     ·exact Or.inr e1
 ·rw[Int.toNat_natCast]
  cases hh:Bt.Bs.has r gn
  ·rfl
  ·have h1:=hf 2 gn hgl (by omega) (by omega)
   rw[eZ hgl] at h1
   have h1:(((gn:Int) == (gn:Int)) && dX r (gn:Int))=false:=h1
   rw[wX hr (by omega) hh] at h1
   simp at h1
 ·rw[bJ hgl]
  rcases Fm.qP hO hgl with e | e | e
  ·exact Or.inl e
  ·exact Or.inr (Or.inl e)
  ·simp only[Fm.jn,Bool.or_eq_true,beq_iff_eq] at e
   rcases e with (e | e) | e
   ·have h1:=hf 9 gn hgl (by omega) (by omega)
    rw[eZ hgl] at h1
    have h1:((t[gn].k == 3) && ((gn:Int) == (gn:Int)))=false:=h1
    rw[e] at h1
    simp at h1
   ·exact Or.inr (Or.inr e)
   ·have h1:=hf 8 gn hgl (by omega) (by omega)
    rw[eZ hgl] at h1
    have h1:((t[gn].k == 5) && ((gn:Int) == (gn:Int)))=false:=h1
    rw[e] at h1
    simp at h1
theorem SF {t:List Nd} (hO:Fm.Ok t) {r:List Nat} (hr:Ok r) {g:Int} (hq:eH t.length (r,g)) (iw:(aZ t r g).1=14):((ay t g).k=4->((11:Int),g) ∈ fT t r g/\((12:Int),g) ∈ fT t r g)/\∀ i x y c d:Nat,i<t.length->Bt.Bs.has r i=true->ay t (i:Int)=aH 5 x y->x<i->ay t (x:Int)=aH 5 c d->((13:Int),(i:Int)) ∈ fT t r g:=by
 have hlen:=hO.len
 rw[M6 hO hr (mh (s:=(r,g)).2 hq),if_pos iw]
 refine⟨fun h4 => ?_,fun i x y c d hi hh hn hxi hn2 => ?_⟩
 ·rw[if_pos h4]
  exact⟨List.mem_append_left _ (by simp),List.mem_append_left _ (by simp)⟩
 ·refine List.mem_append_right _ ?_
  have hf:findF t r g 13 (i:Int)=true:=by
   rw[jX hi,eZ hi]
   have e1:t[i]=aH 5 x y:=by rw[<- bJ hi];exact hn
   show(true && (((if t[i].k=5 then (ay t t[i].l).k else 0) == 5) && dX r (i:Int)))=true
   rw[e1]
   show(true && (((if (5:Int)=5 then (ay t (x:Int)).k else 0) == 5) && dX r (i:Int)))=true
   rw[if_pos rfl,hn2,wX hr (by omega) hh]
   rfl
  unfold QA
  rw[List.drop_zero]
  refine List.mem_flatMap.2 ⟨i,List.mem_range.2 hi,?_⟩
  unfold wI
  rw[List.drop_zero,List.flatMap_cons,List.flatMap_nil,List.append_nil]
  unfold wH
  rw[hf,if_pos rfl]
  exact List.mem_singleton.2 rfl
theorem yE {t t1:List Nd} (hO:Fm.Ok t) (e:Ext t t1) {r:List Nat} {g:Int} {k:Int} {i:Nat} (hi:i<t.length) (h:findF t r g k (i:Int)=true):findF t1 r g k (i:Int)=true:=by
 have hi1:i<t1.length:=Nat.lt_of_lt_of_le hi e.len
 rw[jX hi] at h
 rw[jX hi1]
 have hs:bO t1 (i:Int)=bO t (i:Int):=by
  unfold bO
  rw[e.p8 i hi]
  by_cases h5:(ay t (i:Int)).k=5
  ·rw[bJ hi] at h5 |-
   obtain⟨x,y,ex,ey,lx,ly⟩:=kids hO hi (Or.inr (Or.inr h5))
   rw[ex,e.p8 x (by omega)]
  ·rw[if_neg h5,if_neg h5,if_neg h5,if_neg h5,if_neg h5,if_neg h5]
 rw[hs]
 exact h
structure Stp where
 s:SQ
 pv:Bool
 ru:Int
 mn:Int
 kd:List Nat
deriving DecidableEq
structure Rs where
 t:List Nd
 st:List Stp
 vs:Nat
def pE (s:SQ):List Stp->Option Nat × Nat->Option Nat × Nat
 | [],a=>a
 | x :: l,a=>pE s l (if x.s=s then some a.2 else a.1,a.2+1)
def look (st:List Stp) (s:SQ):Option Nat:=(pE s st (none,0)).1
theorem BG (s:SQ):∀ (l:List Stp) (a:Option Nat × Nat),(pE s l a).2=a.2+l.length
 | [],a=>by simp[pE]
 | x :: l,a=>by unfold pE;rw[BG s l,List.length_cons];simp only;omega
theorem zI (s:SQ) (x:Stp):∀ (l:List Stp) (a:Option Nat × Nat),pE s (l ++ [x]) a=(if x.s=s then some (pE s l a).2 else (pE s l a).1,(pE s l a).2+1)
 | [],a=>rfl
 | y :: l,a=>by
  show pE s (l ++ [x]) _=_
  rw[zI s x l]
  rfl
theorem look_nil (s:SQ):look [] s=none:=rfl
theorem qg (st:List Stp) (x:Stp) (s:SQ):look (st ++ [x]) s=if x.s=s then some st.length else look st s:=by
 unfold look
 rw[zI,BG]
 simp only[Nat.zero_add]
theorem uS {α:Type}:∀ l:List α,l=[]\/∃ k x,l=k ++ [x]
 | []=>Or.inl rfl
 | a :: l=>Or.inr <| match uS l with
  | Or.inl h=>⟨[],a,by rw[h];rfl⟩
  | Or.inr ⟨k,x,h⟩=>⟨a :: k,x,by rw[h];rfl⟩
theorem M7 {s:SQ} {p:Nat}:∀ (n:Nat) {st:List Stp},st.length=n->look st s=some p->∃ h:p<st.length,st[p].s=s:=by
 intro n
 induction n with
 | zero=>
  intro st hn h
  obtain rfl:=List.length_eq_zero_iff.1 hn
  cases h
 | succ n ih=>
  intro st hn h
  rcases uS st with rfl | ⟨k,x,rfl⟩
  ·cases h
  ·rw[qg] at h
   rw[List.length_append,List.length_singleton] at hn
   by_cases e:x.s=s
   ·rw[if_pos e] at h
    cases h
    exact⟨by simp,by simpa using e⟩
   ·rw[if_neg e] at h
    obtain⟨h1,h2⟩:=ih (by omega) h
    refine⟨by simp;omega,?_⟩
    rw[List.getElem_append_left h1]
    exact h2
abbrev lX:=Rs->SQ->Rs × Int × Nat
def fE (d:lX):Rs->Stp->List SQ->Rs × Int × Stp
 | R,x,[]=>(R,0,{ x with pv:=true })
 | R,x,p :: ps=>
  if (d R p).2.1≠0 then ((d R p).1,(d R p).2.1,⟨(Bt.Bs.zero,0),false,0,0,[]⟩)
  else if ((d R p).1.st.getD (d R p).2.2 ⟨(Bt.Bs.zero,0),false,0,0,[]⟩).pv=false then ((d R p).1,0,{ x with kd:=[(d R p).2.2] })
  else fE d (d R p).1 { x with kd:=x.kd ++ [(d R p).2.2] } ps
def lg (d:lX) (s:SQ):Rs->List (Int × Int)->List Nat->Rs × Int × Stp
 | R,[],ks=>(R,0,⟨s,false,14,0,ks⟩)
 | R,c :: cs,ks=>
  if (aO R.t s.1 s.2 c.1 c.2).2.2≠0 then (⟨(aO R.t s.1 s.2 c.1 c.2).2.1,R.st,R.vs⟩,(aO R.t s.1 s.2 c.1 c.2).2.2,⟨(Bt.Bs.zero,0),false,0,0,[]⟩)
  else if (d ⟨(aO R.t s.1 s.2 c.1 c.2).2.1,R.st,R.vs⟩ ((aO R.t s.1 s.2 c.1 c.2).1.headD (Bt.Bs.zero,0))).2.1≠0 then ((d ⟨(aO R.t s.1 s.2 c.1 c.2).2.1,R.st,R.vs⟩ ((aO R.t s.1 s.2 c.1 c.2).1.headD (Bt.Bs.zero,0))).1,(d ⟨(aO R.t s.1 s.2 c.1 c.2).2.1,R.st,R.vs⟩ ((aO R.t s.1 s.2 c.1 c.2).1.headD (Bt.Bs.zero,0))).2.1,⟨(Bt.Bs.zero,0),false,0,0,[]⟩)
  else if ((d ⟨(aO R.t s.1 s.2 c.1 c.2).2.1,R.st,R.vs⟩ ((aO R.t s.1 s.2 c.1 c.2).1.headD (Bt.Bs.zero,0))).1.st.getD (d ⟨(aO R.t s.1 s.2 c.1 c.2).2.1,R.st,R.vs⟩ ((aO R.t s.1 s.2 c.1 c.2).1.headD (Bt.Bs.zero,0))).2.2 ⟨(Bt.Bs.zero,0),false,0,0,[]⟩).pv=true then fE d (d ⟨(aO R.t s.1 s.2 c.1 c.2).2.1,R.st,R.vs⟩ ((aO R.t s.1 s.2 c.1 c.2).1.headD (Bt.Bs.zero,0))).1 ⟨s,false,c.1,c.2,[]⟩ (aO R.t s.1 s.2 c.1 c.2).1
  else lg d s (d ⟨(aO R.t s.1 s.2 c.1 c.2).2.1,R.st,R.vs⟩ ((aO R.t s.1 s.2 c.1 c.2).1.headD (Bt.Bs.zero,0))).1 cs (ks ++ [(d ⟨(aO R.t s.1 s.2 c.1 c.2).2.1,R.st,R.vs⟩ ((aO R.t s.1 s.2 c.1 c.2).1.headD (Bt.Bs.zero,0))).2.2])
def jF (d:lX) (R:Rs) (s:SQ):Rs × Int × Stp :=
 if eP R.t s.1 s.2≠0 then (R,eP R.t s.1 s.2,⟨(Bt.Bs.zero,0),false,0,0,[]⟩)
 else if (aZ R.t s.1 s.2).1=14 then lg d s R (fT R.t s.1 s.2) []
 else if (aO R.t s.1 s.2 (aZ R.t s.1 s.2).1 (aZ R.t s.1 s.2).2).2.2≠0 then (⟨(aO R.t s.1 s.2 (aZ R.t s.1 s.2).1 (aZ R.t s.1 s.2).2).2.1,R.st,R.vs⟩,(aO R.t s.1 s.2 (aZ R.t s.1 s.2).1 (aZ R.t s.1 s.2).2).2.2,⟨(Bt.Bs.zero,0),false,0,0,[]⟩)
 else fE d ⟨(aO R.t s.1 s.2 (aZ R.t s.1 s.2).1 (aZ R.t s.1 s.2).2).2.1,R.st,R.vs⟩ ⟨s,false,(aZ R.t s.1 s.2).1,(aZ R.t s.1 s.2).2,[]⟩ (aO R.t s.1 s.2 (aZ R.t s.1 s.2).1 (aZ R.t s.1 s.2).2).1
def dI (B:Nat):Nat->lX
 | 0,R,s=>match look R.st s with
  | some p=>(R,0,p)
  | none=>(R,110,0)
 | n+1,R,s=>match look R.st s with
  | some p=>(R,0,p)
  | none=>
   if R.vs=B then (R,110,0)
   else if (jF (dI B n) ⟨R.t,R.st,R.vs+1⟩ s).2.1≠0 then ((jF (dI B n) ⟨R.t,R.st,R.vs+1⟩ s).1,(jF (dI B n) ⟨R.t,R.st,R.vs+1⟩ s).2.1,0)
   else (⟨(jF (dI B n) ⟨R.t,R.st,R.vs+1⟩ s).1.t,(jF (dI B n) ⟨R.t,R.st,R.vs+1⟩ s).1.st ++ [(jF (dI B n) ⟨R.t,R.st,R.vs+1⟩ s).2.2],(jF (dI B n) ⟨R.t,R.st,R.vs+1⟩ s).1.vs⟩,0,(jF (dI B n) ⟨R.t,R.st,R.vs+1⟩ s).1.st.length)
theorem wY {l:List Stp} {x y:Stp} {i:Nat} (h:(l ++ [x])[i]?=some y):l[i]?=some y\/(i=l.length/\y=x):=by
 by_cases e:i<l.length
 ·rw[List.getElem?_append_left e] at h
  exact Or.inl h
 ·rw[List.getElem?_append_right (by omega)] at h
  have h1:i - l.length=0:=by
   cases hh:i - l.length with
   | zero=>rfl
   | succ k=>rw[hh] at h;cases h
  rw[h1] at h
  refine Or.inr ⟨by omega,?_⟩
  simpa using h.symm
theorem M8 {s:SQ}:∀ (n:Nat) {st:List Stp},st.length=n->(look st s=none ↔ ∀ x ∈ st,x.s≠s):=by
 intro n
 induction n with
 | zero=>
  intro st hn
  obtain rfl:=List.length_eq_zero_iff.1 hn
  simp[look_nil]
 | succ n ih=>
  intro st hn
  rcases uS st with rfl | ⟨k,x,rfl⟩
  ·cases hn
  ·rw[qg]
   rw[List.length_append,List.length_singleton] at hn
   have:=ih (st:=k) (by omega)
   by_cases e:x.s=s
   ·rw[if_pos e]
    simp only[reduceCtorEq,false_iff]
    intro h
    exact h x (by simp) e
   ·rw[if_neg e,this]
    constructor
    ·intro h y hy
     rcases List.mem_append.1 hy with hy | hy
     ·exact h y hy
     ·obtain rfl:=List.mem_singleton.1 hy
      exact e
    ·intro h y hy
     exact h y (List.mem_append_left _ hy)
structure Hl (t:List Nd) (x:Stp):Prop where
 ok:Ok x.s.1
 rg:eH t.length x.s
 yes:x.pv=true->Val t x.s
 no:x.pv=false->Ref t x.s
theorem Hl.ext {t t1:List Nd} (hO:Fm.Ok t) (iL:Fm.Ok t1) {x:Stp} (h:Hl t x) (e:Ext t t1):Hl t1 x:=⟨h.ok,⟨fun m hm hh=>Nat.lt_of_lt_of_le (h.rg.1 m hm hh) e.len,h.rg.2.1,by have:=h.rg.2.2;have:=e.len;omega⟩,fun hp=>(h.yes hp).ext e,fun hp=>(h.no hp).ext hO iL h.rg e⟩
def bg (st:List Stp) (p:Bool) (l:List Nat):Prop:=∀ j ∈ l,∃ y:Stp,st[j]?=some y/\y.pv=p
theorem bg.app {st:List Stp} {p:Bool} {l:List Nat} (h:bg st p l) (l2:List Stp):bg (st ++ l2) p l:=fun j hj=>by
 obtain⟨y,hy,h2⟩:=h j hj
 refine⟨y,?_,h2⟩
 rw[List.getElem?_append_left (List.getElem?_eq_some_iff.1 hy).1]
 exact hy
structure Gd (R:Rs):Prop where
 ok:Fm.Ok R.t
 xQ:∀ x ∈ R.st,Hl R.t x
 one:∀ (i j:Nat) (x y:Stp),R.st[i]?=some x->R.st[j]?=some y->x.s=y.s->i=j
 kid:∀ (i:Nat) (x:Stp),R.st[i]?=some x->bg (R.st.take i) x.pv x.kd
structure wJ (B:Nat) (R:Rs) (s:SQ) (q:Rs × Int × Nat):Prop where
 ext:Ext R.t q.1.t
 gd:Gd q.1
 pre:∃ l,q.1.st=R.st ++ l/\∀ W,Wt q.1.t W->∀ x ∈ l,mu W x.s<=mu W s
 lk:q.2.1=0->look q.1.st s=some q.2.2
 vs:R.vs<=q.1.vs/\q.1.vs<=B
 ct:q.1.st.length+R.vs<=q.1.vs+R.st.length/\(q.2.1=0->q.1.st.length+R.vs=q.1.vs+R.st.length)
def qD (B:Nat) (d:lX):Prop:=∀ R s,Gd R->R.vs<=B->eH R.t.length s->Ok s.1->wJ B R s (d R s)
theorem jr {t t1:List Nd} (e:Ext t t1) {s:SQ} (h:eH t.length s):eH t1.length s:=⟨fun m hm hh=>Nat.lt_of_lt_of_le (h.1 m hm hh) e.len,h.2.1,by have:=h.2.2;have:=e.len;omega⟩
theorem wJ.at {B:Nat} {R:Rs} {s:SQ} {q:Rs × Int × Nat} (h:wJ B R s q) (h0:q.2.1=0):∃ y,q.1.st[q.2.2]?=some y/\y.s=s/\Hl q.1.t y:=by
 obtain⟨h1,h2⟩:=M7 _ rfl (h.lk h0)
 exact⟨_,List.getElem?_eq_getElem h1,h2,h.gd.xQ _ (List.getElem_mem h1)⟩
structure Wy (B:Nat) (R:Rs) (s:SQ) (Q:Rs) (e:Int):Prop where
 ext:Ext R.t Q.t
 gd:Gd Q
 pre:∃ l,Q.st=R.st ++ l/\∀ W,Wt Q.t W->∀ x ∈ l,mu W x.s<mu W s
 vs:R.vs<=Q.vs/\Q.vs<=B
 ct:Q.st.length+R.vs<=Q.vs+R.st.length/\(e=0->Q.st.length+R.vs=Q.vs+R.st.length)
theorem Wy.refl {B:Nat} {R:Rs} (s:SQ) (hG:Gd R) (hB:R.vs<=B) (e:Int):Wy B R s R e:=⟨Ext.refl _,hG,⟨[],by simp,fun _ _ x hx=>by cases hx⟩,⟨Nat.le_refl _,hB⟩,⟨by omega,fun _=>by omega⟩⟩
theorem Wy.trans {B:Nat} {R R1 R2:Rs} {s:SQ} {e:Int} (h:Wy B R s R1 0) (k:Wy B R1 s R2 e):Wy B R s R2 e:=by
 obtain⟨l1,a1,a2⟩:=h.pre
 obtain⟨l2,b1,b2⟩:=k.pre
 refine⟨h.ext.trans k.ext,k.gd,⟨l1 ++ l2,by rw[b1,a1,List.append_assoc],fun W hW x hx => ?_⟩,⟨Nat.le_trans h.vs.1 k.vs.1,k.vs.2⟩,?_,fun h0 => ?_⟩
 ·rcases List.mem_append.1 hx with hx | hx
  ·exact a2 W (hW.ext k.ext) x hx
  ·exact b2 W hW x hx
 ·have:=h.ct.2 rfl
  have:=k.ct.1
  omega
 ·have:=h.ct.2 rfl
  have:=k.ct.2 h0
  omega
theorem wJ.way {B:Nat} {R:Rs} {s p:SQ} {q:Rs × Int × Nat} (h:wJ B R p q) (hm:∀ W,Wt R.t W->mu W p<mu W s):Wy B R s q.1 q.2.1:=by
 obtain⟨l,a1,a2⟩:=h.pre
 exact⟨h.ext,h.gd,⟨l,a1,fun W hW x hx=>Nat.lt_of_le_of_lt (a2 W hW x hx) (hm W (hW.ext h.ext))⟩,h.vs,h.ct⟩
theorem Wy.kid {B:Nat} {R Q:Rs} {s:SQ} {e:Int} (h:Wy B R s Q e) {p:Bool} {l:List Nat} (hk:bg R.st p l):bg Q.st p l:=by
 obtain⟨l1,a1,_⟩:=h.pre
 rw[a1]
 exact hk.app l1
theorem getD_some {l:List Stp} {i:Nat} {y:Stp} (h:l[i]?=some y) (z:Stp):l.getD i z=y:=by
 rw[List.getD_eq_getElem?_getD,h]
 rfl
theorem Ew {B:Nat} {d:lX} (hd:qD B d):∀ (ps:List SQ) (R:Rs) (x:Stp),Gd R->R.vs<=B->(∀ p ∈ ps,eH R.t.length p/\Ok p.1)->(∀ W,Wt R.t W->∀ p ∈ ps,mu W p<mu W x.s)->x.pv=false->bg R.st true x.kd ->
 Wy B R x.s (fE d R x ps).1 (fE d R x ps).2.1/\((fE d R x ps).2.1=0->(fE d R x ps).2.2.s=x.s/\bg (fE d R x ps).1.st (fE d R x ps).2.2.pv (fE d R x ps).2.2.kd/\(((fE d R x ps).2.2.pv=true/\∀ p ∈ ps,Val (fE d R x ps).1.t p)\/((fE d R x ps).2.2.pv=false/\∃ p ∈ ps,Ref (fE d R x ps).1.t p)))
 | [],R,x,hG,hB,_,_,_,hk=>by
  unfold fE
  exact⟨Wy.refl _ hG hB _,fun _=>⟨rfl,hk,Or.inl ⟨rfl,fun p hp=>by cases hp⟩⟩⟩
 | p :: ps,R,x,hG,hB,hp,hm,hx,hk=>by
  have h1:=hd R p hG hB (hp p (List.mem_cons_self ..)).1 (hp p (List.mem_cons_self ..)).2
  unfold fE
  generalize d R p=q at *
  have hw:=h1.way (s:=x.s) (fun W hW=>hm W hW p (List.mem_cons_self ..))
  by_cases he:q.2.1≠0
  ·rw[if_pos he]
   exact⟨hw,fun h=>absurd h he⟩
  rw[if_neg he]
  have he:q.2.1=0:=by simpa using he
  obtain⟨y,hy,hys,htr⟩:=h1.at he
  rw[getD_some hy]
  by_cases hpv:y.pv=false
  ·rw[if_pos hpv]
   have hr:=htr.no hpv
   rw[hys] at hr
   rw[he] at hw
   refine⟨hw,fun _=>⟨rfl,fun j hj => ?_,Or.inr ⟨hx,p,List.mem_cons_self ..,hr⟩⟩⟩
   obtain rfl:=List.mem_singleton.1 hj
   exact⟨y,hy,hpv.trans hx.symm⟩
  ·rw[if_neg hpv]
   have hv:=htr.yes (by simpa using hpv)
   rw[hys] at hv
   rw[he] at hw
   obtain⟨a1,a2⟩:=Ew hd ps q.1 { x with kd:=x.kd ++ [q.2.2] } h1.gd h1.vs.2 (fun p' hp'=>⟨jr h1.ext (hp p' (List.mem_cons_of_mem _ hp')).1,(hp p' (List.mem_cons_of_mem _ hp')).2⟩) (fun W hW p' hp'=>hm W (hW.ext h1.ext) p' (List.mem_cons_of_mem _ hp')) hx (fun j hj=>by
    rcases List.mem_append.1 hj with hj | hj
    ·exact hw.kid hk j hj
    ·obtain rfl:=List.mem_singleton.1 hj
     exact⟨y,hy,by simpa using hpv⟩)
   refine⟨hw.trans a1,fun h0 => ?_⟩
   obtain⟨b1,b0,b2⟩:=a2 h0
   refine⟨b1,b0,?_⟩
   rcases b2 with ⟨b3,b4⟩ | ⟨b3,p',hp',b4⟩
   ·refine Or.inl ⟨b3,fun p' hp' => ?_⟩
    rcases List.mem_cons.1 hp' with rfl | hp'
    ·exact hv.ext a1.ext
    ·exact b4 p' hp'
   ·exact Or.inr ⟨b3,p',List.mem_cons_of_mem _ hp',b4⟩
theorem Val.back {t t1:List Nd} (hO:Fm.Ok t) (iL:Fm.Ok t1) {s:SQ} (hs:eH t.length s) (h:Val t1 s) (e:Ext t t1):Val t s:=fun M F hF a ha=>by
 obtain⟨G,hG⟩:=JB iL M
 have hu:=MK hO hF (hG.ext e)
 have hg:s.2.toNat<t.length:=by have:=hs.2;omega
 exact(hu _ hg a).2 (h M G hG a fun n hn hh=>(hu n (hs.1 n hn hh) a).1 (ha n hn hh))
theorem Ref.back {t t1:List Nd} {s:SQ} (h:Ref t1 s) (e:Ext t t1):Ref t s:=by
 obtain⟨M,F,a,hF,h1,h2⟩:=h
 exact⟨M,F,a,hF.ext e,h1,h2⟩
theorem rP {k a b c d:Int} (h:aH k a b=aH k c d):a=c/\b=d:=by
 unfold aH at h
 injection h with _ _ h1 h2
 exact⟨h1,h2⟩
theorem iy {t:List Nd} {r:List Nat} (hr:Ok r) {g:Int} (hq:eH t.length (r,g)):eP t r g=0:=by
 rw[sJ hr,mh (s:=(r,g)).2 hq,if_pos rfl]
theorem Ey {t:List Nd} {r:List Nat} {g ru main:Int} (h:(aO t r g ru main).2.2≠0):(aO t r g ru main).2.1=t:=by
 unfold aO at *
 split
 ·rfl
 ·rename_i h1
  rw[if_neg h1] at h
  split
  ·rfl
  ·rename_i h2
   rw[if_neg h2] at h
   split
   ·rfl
   ·rename_i h3
    rw[if_neg h3] at h
    exact absurd rfl h
theorem Gd.grow {R:Rs} (h:Gd R) {t1:List Nd} (hO:Fm.Ok t1) (e:Ext R.t t1):Gd ⟨t1,R.st,R.vs⟩:=⟨hO,fun x hx=>(h.xQ x hx).ext h.ok hO e,h.one,h.kid⟩
theorem Wy.grow {B:Nat} {R:Rs} (s:SQ) (hG:Gd R) (hB:R.vs<=B) {t1:List Nd} (hO:Fm.Ok t1) (e:Ext R.t t1) (c:Int):Wy B R s ⟨t1,R.st,R.vs⟩ c:=⟨e,hG.grow hO e,⟨[],by simp,fun _ _ x hx=>by cases hx⟩,⟨Nat.le_refl _,hB⟩,⟨by simp only;omega,fun _=>by simp only;omega⟩⟩
end Go.Proofs.YtkpbpecikibohaaGreatDoor

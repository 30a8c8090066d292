import Derived.Test.YtkpbpecikibohaaGreatDoorZH1
import Derived.Test.YtkpbpecikibohaaGreatDoorZT1
import Derived.Test.YtkpbpecikibohaaGreatDoorZG9
import Derived.Test.YtkpbpecikibohaaGreatDoorZG6
set_option linter.unusedSimpArgs false
namespace Go.Proofs.YtkpbpecikibohaaGreatDoor
open Go.RowKit Go.Shelf Go.Maps
open Fm (Nd)
open Bt.Bs (Ok wd)
section
variable (t:List Nd) (r:List Nat) (g:Int) (u:List Int)
def wH (i:Nat) (k:Int):List (Int × Int):=if findF t r g k (i:Int) then [(k,(i:Int))] else []
def wI (i k:Nat):List (Int × Int):=(u.drop k).flatMap (wH t r g i)
def QA (i:Nat):List (Int × Int):=((List.range t.length).drop i).flatMap fun i=>wI t r g u i 0
def fl:List (Int × Int):=(List.range t.length).flatMap fun i=>wI t r g u i 0
theorem Sy:fl t r g u=QA t r g u 0:=rfl
end
theorem xP {α β:Type} (p:α->Bool) (f:α->List β):∀ l:List α,(∀ x ∈ l,p x=false->f x=[])->(l.filter p).flatMap f=l.flatMap f
 | [],_=>rfl
 | x :: l,h=>by
  have ih:=xP p f l (fun y hy=>h y (List.mem_cons_of_mem _ hy))
  cases hp:p x with
  | true=>rw[List.filter_cons_of_pos hp,List.flatMap_cons,List.flatMap_cons,ih]
  | false=>rw[List.filter_cons_of_neg (by simp[hp]),List.flatMap_cons,ih,h x (List.mem_cons_self ..) hp,List.nil_append]
theorem p9 {α β:Type} {f f':α->List β}:∀ {l:List α},(∀ x ∈ l,f x=f' x)->l.flatMap f=l.flatMap f'
 | [],_=>rfl
 | x :: l,h=>by rw[List.flatMap_cons,List.flatMap_cons,h x (List.mem_cons_self ..),p9 fun y hy=>h y (List.mem_cons_of_mem _ hy)]
theorem Sz {t:List Nd} {r:List Nat} {g:Int} {n i:Nat} (h1:dX r (n:Int)=false) (h2:(n:Int)≠g):mY r g i (bO t (n:Int))=false:=by
 have e:(bO t (n:Int)).id=n:=rfl
 have h3:((n:Int) == g)=false:=by simpa using h2
 unfold mY
 split <;> simp[e,h1,h3]
theorem M4 {t:List Nd} (hO:Fm.Ok t) {r:List Nat} (hr:Ok r) {g:Int} (hq:iT t r g=true):rO r g=(List.range t.length).filter fun n=>Bt.Bs.has r n || decide ((n:Int)=g):=by
 unfold iT at hq
 simp only[Bool.and_eq_true] at hq
 have hg:=Fm.dJ.1 hq.2
 have hlen:=hO.len
 obtain⟨m,rfl⟩:∃ m:Nat,g=m:=⟨g.toNat,by omega⟩
 have hm:m<1024:=by omega
 have hall:∀ n,n<1024->Bt.Bs.has r n=true->n<t.length:=fun n hn hh=>by
  have:=List.all_eq_true.1 hq.1 (n:Int) (List.mem_map.2 ⟨n,Bt.Bs.oN.2 ⟨hn,hh⟩,rfl⟩)
  have:=(Fm.dJ.1 this).2
  omega
 unfold rO aD aD Bt.iP
 rw[if_pos ⟨by omega,by omega⟩,Int.toNat_natCast]
 show(List.range 1024).filter (Bt.Bs.has (Bt.Bs.put r m))=_
 have e:List.range 1024=List.range t.length ++ (List.range (1024 - t.length)).map (t.length+·):=by
  rw[<- List.range_add,Nat.add_sub_cancel' hlen]
 rw[e,List.filter_append]
 have e2:((List.range (1024 - t.length)).map (t.length+·)).filter (Bt.Bs.has (Bt.Bs.put r m))=[]:=by
  rw[List.filter_eq_nil_iff]
  intro x hx
  obtain⟨y,hy,rfl⟩:=List.mem_map.1 hx
  have hy:=List.mem_range.1 hy
  rw[Bt.Bs.j5 hr hm]
  intro h
  rw[Bool.or_eq_true] at h
  rcases h with h | h
  ·have:=hall _ (by omega) h
   omega
  ·have:=of_decide_eq_true h
   omega
 rw[e2,List.append_nil]
 refine List.filter_congr fun x _ => ?_
 rw[Bt.Bs.j5 hr hm]
 have e3:decide (x=m)=decide ((x:Int)=(m:Int)):=by
  by_cases h:x=m
  ·subst h;simp
  ·rw[decide_eq_false h,decide_eq_false (by omega)]
 rw[e3]
theorem Pz {t:List Nd} {r:List Nat} {g:Int} {n:Nat} (hn:n<t.length) (u:List Int) (hu:(bG u).map (fun i:Nat=>(i:Int)+1)=u) (hb:∀ i ∈ bG u,i<13):nL r g (bO t (n:Int)) (bG u)=wI t r g u n 0:=by
 unfold nL wI
 rw[List.drop_zero]
 conv=>rhs;rw[<- hu]
 rw[List.flatMap_map]
 refine p9 fun i hi => ?_
 have Ej:=hb i hi
 unfold sV wH
 rw[jX hn]
 have e1:decide ((1:Int)<=(i:Int)+1)=true:=decide_eq_true (by omega)
 have e2:decide ((i:Int)+1<=13)=true:=decide_eq_true (by omega)
 have e3:((i:Int)+1 - 1).toNat=i:=by omega
 rw[e1,e2,e3,Bool.true_and,Bool.true_and]
 rfl
theorem V5 {t:List Nd} (hO:Fm.Ok t) {r:List Nat} (hr:Ok r) {g:Int} (hq:iT t r g=true) (u:List Int) (hu:(bG u).map (fun i:Nat=>(i:Int)+1)=u) (hb:∀ i ∈ bG u,i<13):lF r g (bG u) (cZ t r g)=fl t r g u:=by
 unfold lF cZ fl
 rw[M4 hO hr hq,List.flatMap_map]
 have hlen:=hO.len
 have e:((List.range t.length).filter fun n=>Bt.Bs.has r n || decide ((n:Int)=g)).flatMap (fun n:Nat=>nL r g (bO t (n:Int)) (bG u))=(List.range t.length).flatMap (fun n:Nat=>nL r g (bO t (n:Int)) (bG u)):=by
  refine xP _ _ _ fun n hn h => ?_
  have hn:=List.mem_range.1 hn
  rw[Bool.or_eq_false_iff] at h
  have h1:dX r (n:Int)=false:=by
   rw[Ak hr (by omega)]
   unfold Bt.Bs.Dl
   rw[Int.toNat_natCast,h.1,Bool.and_false]
  have h2:(n:Int)≠g:=by simpa using h.2
  unfold nL
  rw[List.flatMap_eq_nil_iff]
  intro i _
  unfold sV
  rw[Sz h1 h2]
  rfl
 rw[e]
 refine p9 fun n hn => ?_
 exact Pz (List.mem_range.1 hn) u hu hb
theorem M5:∀ u ∈ iH ++ nC,(bG u).map (fun i:Nat=>(i:Int)+1)=u/\∀ i ∈ bG u,i<13:=by
 have Ej:∀ (u:List Int),∀ i ∈ bG u,i<13:=fun u i hi=>by
  unfold bG at hi
  exact List.mem_range.1 (List.mem_filter.1 hi).1
 intro u hu
 refine⟨?_,Ej u⟩
 simp only[iH,nC,List.cons_append,List.nil_append,List.mem_cons,List.not_mem_nil,or_false] at hu
 rcases hu with rfl | rfl | rfl | rfl | rfl | rfl | rfl | rfl | rfl <;> decide
theorem Eu {t:List Nd} (hO:Fm.Ok t) {r:List Nat} (hr:Ok r) {g:Int} (hq:iT t r g=true) (us:List (List Int)) (hs:∀ u ∈ us,u ∈ iH ++ nC):tl1 r g (cZ t r g) us=us.flatMap (fl t r g):=by
 unfold tl1
 refine p9 fun u hu => ?_
 obtain⟨h1,h2⟩:=M5 u (hs u hu)
 exact V5 hO hr hq u h1 h2
theorem Hg {t:List Nd} {r:List Nat} {g:Int} (hq:iT t r g=true) (k:Int) (hk:k=11\/k=12):fl t r g [k]=if (ay t g).k=4 then [(k,g)] else []:=by
 unfold iT at hq
 simp only[Bool.and_eq_true] at hq
 have hg:=Fm.dJ.1 hq.2
 obtain⟨m,rfl⟩:∃ m:Nat,g=m:=⟨g.toNat,by omega⟩
 have hm:m<t.length:=by omega
 rw[bJ hm]
 have hone:∀ n,n<t.length->wI t r (m:Int) [k] n 0=if n=m then (if t[m].k=4 then [(k,(m:Int))] else []) else []:=fun n hn=>by
  unfold wI
  rw[List.drop_zero,List.flatMap_cons,List.flatMap_nil,List.append_nil]
  unfold wH
  have e:findF t r (m:Int) k (n:Int)=((t[n].k == 4) && ((n:Int) == (m:Int))):=by
   rw[jX hn,eZ hn]
   rcases hk with rfl | rfl <;> rfl
  rw[e]
  by_cases h:n=m
  ·subst h
   rw[if_pos rfl]
   by_cases h4:t[n].k=4
   ·rw[if_pos h4,if_pos (by simp[h4])]
   ·rw[if_neg h4,if_neg (by simp[h4])]
  ·rw[if_neg h,if_neg (by simp;omega)]
 unfold fl
 rw[p9 fun n hn=>hone n (List.mem_range.1 hn)]
 have key:∀ (l:List Nat) (X:List (Int × Int)),l.Nodup->m ∈ l->l.flatMap (fun n=>if n=m then X else [])=X:=fun l X=>by
  induction l with
  | nil=>intro _ h;cases h
  | cons a l ih=>
   intro hn hm
   rw[List.nodup_cons] at hn
   rw[List.flatMap_cons]
   by_cases h:a=m
   ·subst h
    rw[if_pos rfl]
    have:l.flatMap (fun n=>if n=a then X else [])=[]:=by
     rw[List.flatMap_eq_nil_iff]
     intro x hx
     rw[if_neg (fun e:x=a=>hn.1 (e ▸ hx))]
    rw[this,List.append_nil]
   ·rw[if_neg h,List.nil_append,ih hn.2 ((List.mem_cons.1 hm).resolve_left (fun e=>h e.symm))]
 exact key _ _ List.nodup_range (List.mem_range.2 hm)
theorem M6 {t:List Nd} (hO:Fm.Ok t) {r:List Nat} (hr:Ok r) {g:Int} (hq:iT t r g=true):fT t r g=if (aZ t r g).1=14 then (if (ay t g).k=4 then [(11,g),(12,g)] else []) ++ QA t r g [13] 0 else []:=by
 have hz:eP t r g=0:=by rw[sJ hr,hq,if_pos rfl]
 unfold fT
 rw[Eu hO hr hq nC (fun u hu=>List.mem_append_right _ hu)]
 have e:nC.flatMap (fl t r g)=fl t r g [11] ++ (fl t r g [12] ++ (fl t r g [13] ++ [])):=by
  unfold nC
  rw[List.flatMap_cons,List.flatMap_cons,List.flatMap_cons,List.flatMap_nil]
 rw[e,Hg hq 11 (Or.inl rfl),Hg hq 12 (Or.inr rfl),List.append_nil,Sy]
 by_cases h:(aZ t r g).1=14
 ·rw[if_pos ⟨hz,h⟩,if_pos h]
  by_cases h4:(ay t g).k=4
  ·rw[if_pos h4,if_pos h4,if_pos h4];rfl
  ·rw[if_neg h4,if_neg h4,if_neg h4];rfl
 ·rw[if_neg (fun e=>h e.2),if_neg h]
theorem SB {r:List Nat} {g:Int} {ms:List Sh} {ts:List (List Int)} {x:Int × Int} (h:x ∈ tl1 r g ms ts):∃ m ∈ ms,∃ i,i<13/\mY r g i m=true/\x=((i:Int)+1,m.id):=by
 unfold tl1 at h
 obtain⟨u,_,h⟩:=List.mem_flatMap.1 h
 unfold lF at h
 obtain⟨m,hm,h⟩:=List.mem_flatMap.1 h
 unfold nL at h
 obtain⟨i,hi,h⟩:=List.mem_flatMap.1 h
 unfold sV at h
 have Ej:i<13:=by
  unfold bG at hi
  exact List.mem_range.1 (List.mem_filter.1 hi).1
 split at h
 ·rename_i hf
  exact⟨m,hm,i,Ej,hf,List.mem_singleton.1 h⟩
 ·cases h
theorem Ev {t:List Nd} (hO:Fm.Ok t) {r:List Nat} (hr:Ok r) {g:Int} (hz:eP t r g=0) {ts:List (List Int)} {x:Int × Int} (h:x ∈ tl1 r g (cZ t r g) ts):findF t r g x.1 x.2=true:=by
 obtain⟨m,hm,i,Ej,hf,rfl⟩:=SB h
 unfold cZ at hm
 obtain⟨n,hn,rfl⟩:=List.mem_map.1 hm
 have hq:iT t r g=true:=by
  rw[sJ hr] at hz
  cases h:iT t r g
  ·rw[h,if_neg Bool.false_ne_true] at hz
   exact absurd hz (by decide)
  ·rfl
 have hg:=mh (s:=(r,g)).1 hq
 have h2:0<=g/\g<t.length:=hg.2
 have hlen:=hO.len
 have hnl:n<t.length:=by
  obtain⟨gn,rfl⟩:∃ gn:Nat,g=gn:=⟨g.toNat,by omega⟩
  unfold rO at hn
  have hn2:=Bt.Bs.oN.1 hn
  have e:aD r [(gn:Int)]=Bt.Bs.put r gn:=qO (by omega)
  rw[e,Bt.Bs.j5 hr (by omega),Bool.or_eq_true,decide_eq_true_eq] at hn2
  rcases hn2.2 with h3 | h3
  ·exact hg.1 n hn2.1 h3
  ·omega
 show findF t r g ((i:Int)+1) (n:Int)=true
 rw[jX hnl]
 have e1:decide ((1:Int)<=(i:Int)+1)=true:=decide_eq_true (by omega)
 have e2:decide ((i:Int)+1<=13)=true:=decide_eq_true (by omega)
 have e3:((i:Int)+1 - 1).toNat=i:=by omega
 rw[e1,e2,e3,hf]
 rfl
theorem uR {t:List Nd} (hO:Fm.Ok t) {r:List Nat} (hr:Ok r) {g:Int} (hz:eP t r g=0) (h:(aZ t r g).1≠14):findF t r g (aZ t r g).1 (aZ t r g).2=true:=by
 unfold aZ at *
 cases hh:(tl1 r g (cZ t r g) iH).head? with
 | none=>rw[hh] at h;exact absurd rfl h
 | some x=>
  rw[Option.getD_some]
  exact Ev hO hr hz (List.mem_of_head? hh)
theorem Ar {t:List Nd} (hO:Fm.Ok t) {r:List Nat} (hr:Ok r) {g:Int} {x:Int × Int} (hm:x ∈ fT t r g):findF t r g x.1 x.2=true:=by
 unfold fT at hm
 split at hm
 ·rename_i h
  exact Ev hO hr h.1 hm
 ·cases hm
end Go.Proofs.YtkpbpecikibohaaGreatDoor

import Derived.Test.YtkejippimkjjaaaGreatDoorZH1
import Derived.Test.YtkejippimkjjaaaGreatDoorZT1
import Derived.Test.YtkejippimkjjaaaGreatDoorZG9
import Derived.Test.YtkejippimkjjaaaGreatDoorZG6
set_option linter.unusedSimpArgs false
namespace Go.Proofs.YtkejippimkjjaaaGreatDoor
open Go.RowKit Go.Shelf Go.Maps
open Fm (Nd)
open Bt.Bs (Ok wd)
section
variable (t:List Nd) (r:List Nat) (g:Int) (u:List Int)
def kK (i:Nat) (k:Int):List (Int × Int):=if findF t r g k (i:Int) then [(k,(i:Int))] else []
def jS (i k:Nat):List (Int × Int):=(u.drop k).flatMap (kK t r g i)
def iq (i:Nat):List (Int × Int):=((List.range t.length).drop i).flatMap fun i=>jS t r g u i 0
def fl:List (Int × Int):=(List.range t.length).flatMap fun i=>jS t r g u i 0
theorem Py:fl t r g u=iq t r g u 0:=rfl
theorem Ck {i:Nat} (h:i<t.length):iq t r g u i=jS t r g u i 0 ++ iq t r g u (i+1):=by
 unfold iq
 rw[List.drop_eq_getElem_cons (by simpa using h),List.flatMap_cons,List.getElem_range]
theorem y7:iq t r g u t.length=[]:=by
 unfold iq
 rw[List.drop_of_length_le (by simp)]
 rfl
theorem SF {i k:Nat} (h:k<u.length):jS t r g u i k=kK t r g i u[k] ++ jS t r g u i (k+1):=by
 unfold jS
 rw[List.drop_eq_getElem_cons h,List.flatMap_cons]
theorem Pz {i:Nat}:jS t r g u i u.length=[]:=by
 unfold jS
 rw[List.drop_length]
 rfl
end
theorem wI {α β:Type} (p:α->Bool) (f:α->List β):∀ l:List α,(∀ x ∈ l,p x=false->f x=[])->(l.filter p).flatMap f=l.flatMap f
 | [],_=>rfl
 | x :: l,h=>by
  have ih:=wI p f l (fun y hy=>h y (List.mem_cons_of_mem _ hy))
  cases hp:p x with
  | true=>rw[List.filter_cons_of_pos hp,List.flatMap_cons,List.flatMap_cons,ih]
  | false=>rw[List.filter_cons_of_neg (by simp[hp]),List.flatMap_cons,ih,h x (List.mem_cons_self ..) hp,List.nil_append]
theorem pz {α β:Type} {f f':α->List β}:∀ {l:List α},(∀ x ∈ l,f x=f' x)->l.flatMap f=l.flatMap f'
 | [],_=>rfl
 | x :: l,h=>by rw[List.flatMap_cons,List.flatMap_cons,h x (List.mem_cons_self ..),pz fun y hy=>h y (List.mem_cons_of_mem _ hy)]
theorem PD {t:List Nd} {r:List Nat} {g:Int} {n i:Nat} (h1:dM r (n:Int)=false) (h2:(n:Int)≠g):mR r g i (dx t (n:Int))=false:=by
 have e:(dx t (n:Int)).id=n:=rfl
 have h3:((n:Int) == g)=false:=by simpa using h2
 unfold mR
 split <;> simp[e,h1,h3]
theorem JV {t:List Nd} (hO:Fm.Ok t) {r:List Nat} (hr:Ok r) {g:Int} (hq:eB t r g=true):qJ r g=(List.range t.length).filter fun n=>Bt.Bs.has r n || decide ((n:Int)=g):=by
 unfold eB at hq
 simp only[Bool.and_eq_true] at hq
 have hg:=Fm.bJ.1 hq.2
 have hlen:=hO.len
 obtain⟨m,rfl⟩:∃ m:Nat,g=m:=⟨g.toNat,by omega⟩
 have hm:m<1024:=by omega
 have hall:∀ n,n<1024->Bt.Bs.has r n=true->n<t.length:=fun n hn hh=>by
  have:=List.all_eq_true.1 hq.1 (n:Int) (List.mem_map.2 ⟨n,Bt.Bs.om.2 ⟨hn,hh⟩,rfl⟩)
  have:=(Fm.bJ.1 this).2
  omega
 unfold qJ aA aA Bt.gF
 rw[if_pos ⟨by omega,by omega⟩,Int.toNat_natCast]
 show(List.range 1024).filter (Bt.Bs.has (Bt.Bs.put r m))=_
 have e:List.range 1024=List.range t.length ++ (List.range (1024 - t.length)).map (t.length+·):=by
  rw[<- List.range_add,Nat.add_sub_cancel' hlen]
 rw[e,List.filter_append]
 have e2:((List.range (1024 - t.length)).map (t.length+·)).filter (Bt.Bs.has (Bt.Bs.put r m))=[]:=by
  rw[List.filter_eq_nil_iff]
  intro x hx
  obtain⟨y,hy,rfl⟩:=List.mem_map.1 hx
  have hy:=List.mem_range.1 hy
  rw[Bt.Bs.jL hr hm]
  intro h
  rw[Bool.or_eq_true] at h
  rcases h with h | h
  ·have:=hall _ (by omega) h
   omega
  ·have:=of_decide_eq_true h
   omega
 rw[e2,List.append_nil]
 refine List.filter_congr fun x _ => ?_
 rw[Bt.Bs.jL hr hm]
 have e3:decide (x=m)=decide ((x:Int)=(m:Int)):=by
  by_cases h:x=m
  ·subst h;simp
  ·rw[decide_eq_false h,decide_eq_false (by omega)]
 rw[e3]
theorem MF {t:List Nd} {r:List Nat} {g:Int} {n:Nat} (hn:n<t.length) (u:List Int) (hu:(bS u).map (fun i:Nat=>(i:Int)+1)=u) (hb:∀ i ∈ bS u,i<13):nH r g (dx t (n:Int)) (bS u)=jS t r g u n 0:=by
 unfold nH jS
 rw[List.drop_zero]
 conv=>rhs;rw[<- hu]
 rw[List.flatMap_map]
 refine pz fun i hi => ?_
 have uS:=hb i hi
 unfold rP kK
 rw[jD hn]
 have e1:decide ((1:Int)<=(i:Int)+1)=true:=decide_eq_true (by omega)
 have e2:decide ((i:Int)+1<=13)=true:=decide_eq_true (by omega)
 have e3:((i:Int)+1 - 1).toNat=i:=by omega
 rw[e1,e2,e3,Bool.true_and,Bool.true_and]
 rfl
theorem SG {t:List Nd} (hO:Fm.Ok t) {r:List Nat} (hr:Ok r) {g:Int} (hq:eB t r g=true) (u:List Int) (hu:(bS u).map (fun i:Nat=>(i:Int)+1)=u) (hb:∀ i ∈ bS u,i<13):lI r g (bS u) (dD t r g)=fl t r g u:=by
 unfold lI dD fl
 rw[JV hO hr hq,List.flatMap_map]
 have hlen:=hO.len
 have e:((List.range t.length).filter fun n=>Bt.Bs.has r n || decide ((n:Int)=g)).flatMap (fun n:Nat=>nH r g (dx t (n:Int)) (bS u))=(List.range t.length).flatMap (fun n:Nat=>nH r g (dx t (n:Int)) (bS u)):=by
  refine wI _ _ _ fun n hn h => ?_
  have hn:=List.mem_range.1 hn
  rw[Bool.or_eq_false_iff] at h
  have h1:dM r (n:Int)=false:=by
   rw[rY hr (by omega)]
   unfold Bt.Bs.bX
   rw[Int.toNat_natCast,h.1,Bool.and_false]
  have h2:(n:Int)≠g:=by simpa using h.2
  unfold nH
  rw[List.flatMap_eq_nil_iff]
  intro i _
  unfold rP
  rw[PD h1 h2]
  rfl
 rw[e]
 refine pz fun n hn => ?_
 exact MF (List.mem_range.1 hn) u hu hb
theorem JW:∀ u ∈ dP ++ mW,(bS u).map (fun i:Nat=>(i:Int)+1)=u/\∀ i ∈ bS u,i<13:=by
 have uS:∀ (u:List Int),∀ i ∈ bS u,i<13:=fun u i hi=>by
  unfold bS at hi
  exact List.mem_range.1 (List.mem_filter.1 hi).1
 intro u hu
 refine⟨?_,uS u⟩
 simp only[dP,mW,List.cons_append,List.nil_append,List.mem_cons,List.not_mem_nil,or_false] at hu
 rcases hu with rfl | rfl | rfl | rfl | rfl | rfl | rfl | rfl | rfl <;> decide
theorem yj {t:List Nd} (hO:Fm.Ok t) {r:List Nat} (hr:Ok r) {g:Int} (hq:eB t r g=true) (us:List (List Int)) (hs:∀ u ∈ us,u ∈ dP ++ mW):tl1 r g (dD t r g) us=us.flatMap (fl t r g):=by
 unfold tl1
 refine pz fun u hu => ?_
 obtain⟨h1,h2⟩:=JW u (hs u hu)
 exact SG hO hr hq u h1 h2
theorem EP {t:List Nd} {r:List Nat} {g:Int} (hq:eB t r g=true) (k:Int) (hk:k=11\/k=12):fl t r g [k]=if (aB t g).k=4 then [(k,g)] else []:=by
 unfold eB at hq
 simp only[Bool.and_eq_true] at hq
 have hg:=Fm.bJ.1 hq.2
 obtain⟨m,rfl⟩:∃ m:Nat,g=m:=⟨g.toNat,by omega⟩
 have hm:m<t.length:=by omega
 rw[aY hm]
 have hone:∀ n,n<t.length->jS t r (m:Int) [k] n 0=if n=m then (if t[m].k=4 then [(k,(m:Int))] else []) else []:=fun n hn=>by
  unfold jS
  rw[List.drop_zero,List.flatMap_cons,List.flatMap_nil,List.append_nil]
  unfold kK
  have e:findF t r (m:Int) k (n:Int)=((t[n].k == 4) && ((n:Int) == (m:Int))):=by
   rw[jD hn,bU hn]
   rcases hk with rfl | rfl <;> rfl
  rw[e]
  by_cases h:n=m
  ·subst h
   rw[if_pos rfl]
   by_cases h4:t[n].k=4
   ·rw[if_pos h4,if_pos (by simp[h4])]
   ·rw[if_neg h4,if_neg (by simp[h4])]
  ·rw[if_neg h,if_neg (by simp;omega)]
 unfold fl
 rw[pz fun n hn=>hone n (List.mem_range.1 hn)]
 have key:∀ (l:List Nat) (X:List (Int × Int)),l.Nodup->m ∈ l->l.flatMap (fun n=>if n=m then X else [])=X:=fun l X=>by
  induction l with
  | nil=>intro _ h;cases h
  | cons a l ih=>
   intro hn hm
   rw[List.nodup_cons] at hn
   rw[List.flatMap_cons]
   by_cases h:a=m
   ·subst h
    rw[if_pos rfl]
    have:l.flatMap (fun n=>if n=a then X else [])=[]:=by
     rw[List.flatMap_eq_nil_iff]
     intro x hx
     rw[if_neg (fun e:x=a=>hn.1 (e ▸ hx))]
    rw[this,List.append_nil]
   ·rw[if_neg h,List.nil_append,ih hn.2 ((List.mem_cons.1 hm).resolve_left (fun e=>h e.symm))]
 exact key _ _ List.nodup_range (List.mem_range.2 hm)
theorem Cm {t:List Nd} (hO:Fm.Ok t) {r:List Nat} (hr:Ok r) {g:Int} (hq:eB t r g=true):dV t r g=if (aL t r g).1=14 then (if (aB t g).k=4 then [(11,g),(12,g)] else []) ++ iq t r g [13] 0 else []:=by
 have hz:d9 t r g=0:=by rw[oZ hr,hq,if_pos rfl]
 unfold dV
 rw[yj hO hr hq mW (fun u hu=>List.mem_append_right _ hu)]
 have e:mW.flatMap (fl t r g)=fl t r g [11] ++ (fl t r g [12] ++ (fl t r g [13] ++ [])):=by
  unfold mW
  rw[List.flatMap_cons,List.flatMap_cons,List.flatMap_cons,List.flatMap_nil]
 rw[e,EP hq 11 (Or.inl rfl),EP hq 12 (Or.inr rfl),List.append_nil,Py]
 by_cases h:(aL t r g).1=14
 ·rw[if_pos ⟨hz,h⟩,if_pos h]
  by_cases h4:(aB t g).k=4
  ·rw[if_pos h4,if_pos h4,if_pos h4];rfl
  ·rw[if_neg h4,if_neg h4,if_neg h4];rfl
 ·rw[if_neg (fun e=>h e.2),if_neg h]
theorem PG {r:List Nat} {g:Int} {ms:List Sh} {ts:List (List Int)} {x:Int × Int} (h:x ∈ tl1 r g ms ts):∃ m ∈ ms,∃ i,i<13/\mR r g i m=true/\x=((i:Int)+1,m.id):=by
 unfold tl1 at h
 obtain⟨u,_,h⟩:=List.mem_flatMap.1 h
 unfold lI at h
 obtain⟨m,hm,h⟩:=List.mem_flatMap.1 h
 unfold nH at h
 obtain⟨i,hi,h⟩:=List.mem_flatMap.1 h
 unfold rP at h
 have uS:i<13:=by
  unfold bS at hi
  exact List.mem_range.1 (List.mem_filter.1 hi).1
 split at h
 ·rename_i hf
  exact⟨m,hm,i,uS,hf,List.mem_singleton.1 h⟩
 ·cases h
theorem Cn {t:List Nd} (hO:Fm.Ok t) {r:List Nat} (hr:Ok r) {g:Int} (hz:d9 t r g=0) {ts:List (List Int)} {x:Int × Int} (h:x ∈ tl1 r g (dD t r g) ts):findF t r g x.1 x.2=true:=by
 obtain⟨m,hm,i,uS,hf,rfl⟩:=PG h
 unfold dD at hm
 obtain⟨n,hn,rfl⟩:=List.mem_map.1 hm
 have hq:eB t r g=true:=by
  rw[oZ hr] at hz
  cases h:eB t r g
  ·rw[h,if_neg Bool.false_ne_true] at hz
   exact absurd hz (by decide)
  ·rfl
 have hg:=jN (s:=(r,g)).1 hq
 have h2:0<=g/\g<t.length:=hg.2
 have hlen:=hO.len
 have hnl:n<t.length:=by
  obtain⟨gn,rfl⟩:∃ gn:Nat,g=gn:=⟨g.toNat,by omega⟩
  unfold qJ at hn
  have hn2:=Bt.Bs.om.1 hn
  have e:aA r [(gn:Int)]=Bt.Bs.put r gn:=qo (by omega)
  rw[e,Bt.Bs.jL hr (by omega),Bool.or_eq_true,decide_eq_true_eq] at hn2
  rcases hn2.2 with h3 | h3
  ·exact hg.1 n hn2.1 h3
  ·omega
 show findF t r g ((i:Int)+1) (n:Int)=true
 rw[jD hnl]
 have e1:decide ((1:Int)<=(i:Int)+1)=true:=decide_eq_true (by omega)
 have e2:decide ((i:Int)+1<=13)=true:=decide_eq_true (by omega)
 have e3:((i:Int)+1 - 1).toNat=i:=by omega
 rw[e1,e2,e3,hf]
 rfl
theorem tu {t:List Nd} (hO:Fm.Ok t) {r:List Nat} (hr:Ok r) {g:Int} (hz:d9 t r g=0) (h:(aL t r g).1≠14):findF t r g (aL t r g).1 (aL t r g).2=true:=by
 unfold aL at *
 cases hh:(tl1 r g (dD t r g) dP).head? with
 | none=>rw[hh] at h;exact absurd rfl h
 | some x=>
  rw[Option.getD_some]
  exact Cn hO hr hz (List.mem_of_head? hh)
theorem y8 {t:List Nd} (hO:Fm.Ok t) {r:List Nat} (hr:Ok r) {g:Int} {x:Int × Int} (hm:x ∈ dV t r g):findF t r g x.1 x.2=true:=by
 unfold dV at hm
 split at hm
 ·rename_i h
  exact Cn hO hr h.1 hm
 ·cases hm
end Go.Proofs.YtkejippimkjjaaaGreatDoor

import Derived.Test.YtkpbpecikibohaaGreatDoorZG6
import Derived.Test.YtkpbpecikibohaaGreatDoorBG5
set_option linter.unusedSimpArgs false
namespace Go.Proofs.YtkpbpecikibohaaGreatDoor
open Go.RowKit Go.Shelf Go.Maps
open Fm (Nd)
open Bt.Bs (Ok wd)
theorem kH {r:List Nat} {n:Nat} (h:n<1024):(Bt.iP r (n:Int)).1=Bt.Bs.put r n:=by
 unfold Bt.iP
 rw[if_pos ⟨by omega,by omega⟩]
 simp
theorem Eb {r:List Nat} (hr:Ok r) {n:Nat} (hn:n<1024):(Bt.Bs.put r n=r) ↔ Bt.Bs.has r n=true:=by
 constructor
 ·intro h
  have:=Bt.Bs.j5 hr hn n
  rw[h] at this
  simpa using this
 ·intro h
  have ho:Ok (Bt.Bs.put r n):=by have:=yj hr (n:Int);rwa [kH hn] at this
  refine Bt.Bs.RD ho hr fun m _ => ?_
  rw[Bt.Bs.j5 hr hn]
  by_cases e:m=n
  ·subst e;rw[h];rfl
  ·simp[e]
theorem Ak {r:List Nat} (hr:Ok r) {n:Nat} (hn:n<1024):dX r (n:Int)=Bt.Bs.Dl r (n:Int):=by
 unfold dX Bt.Bs.Dl
 rw[kH hn,Int.toNat_natCast]
 have h1:decide ((0:Int)<=(n:Int))=true:=by simp
 have h2:decide ((n:Int)<1024)=true:=by simp;omega
 rw[h1,h2,Bool.true_and,Bool.true_and,Bool.eq_iff_iff,decide_eq_true_iff]
 exact Eb hr hn
theorem kids {t:List Nd} (hO:Fm.Ok t) {i:Nat} (hi:i<t.length) (hj:t[i].k=3\/t[i].k=4\/t[i].k=5):∃ x y:Nat,t[i].l=x/\t[i].r=y/\x<i/\y<i:=by
 have h:=hO.Cj i hi
 unfold Fm.check at h
 cases hs:Fm.shaped (t.take i) t[i] with
 | false=>rw[hs,if_neg Bool.false_ne_true] at h;omega
 | true=>
  unfold Fm.shaped at hs
  have n1:¬ t[i].k=1:=by omega
  have n2:¬ t[i].k=2:=by omega
  rw[if_neg n1,if_neg n2] at hs
  split at hs
  ·simp only[Bool.and_eq_true] at hs
   have h1:=Fm.dJ.1 hs.1.2
   have h2:=Fm.dJ.1 hs.2
   have hl:(t.take i).length=i:=by rw[List.length_take];omega
   rw[hl] at h1 h2
   exact⟨t[i].l.toNat,t[i].r.toNat,by omega,by omega,by omega,by omega⟩
  ·cases hs
theorem bJ {t:List Nd} {i:Nat} (hi:i<t.length):ay t (i:Int)=t[i]:=by
 unfold ay
 rw[if_pos (Fm.dJ.2 ⟨by omega,by omega⟩)]
 simp[List.getD,hi]
theorem jX {t:List Nd} {r:List Nat} {g ru:Int} {i:Nat} (hi:i<t.length):findF t r g ru (i:Int)=((decide (1<=ru) && decide (ru<=13)) && mY r g (ru - 1).toNat (bO t (i:Int))):=by
 unfold findF
 rw[Fm.dJ.2 ⟨by omega,by omega⟩,Bool.true_and]
theorem eZ {t:List Nd} {i:Nat} (hi:i<t.length):bO t (i:Int)=⟨i,t[i].k,t[i].l,t[i].r,if t[i].k=5 then (ay t t[i].l).k else 0,if t[i].k=5 then (ay t t[i].l).l else 0,if t[i].k=5 then (ay t t[i].l).r else 0⟩:=by
 unfold bO
 rw[bJ hi]
theorem rM {t:List Nd} {r:List Nat} {g:Int} {i:Nat} (hi:i<t.length) (ru k:Int) (hk:(ru=4/\k=1)\/(ru=5/\k=2)\/(ru=6/\k=3)\/(ru=7/\k=4)\/(ru=13/\k=5)) (h:findF t r g ru (i:Int)=true):t[i].k=5/\(ay t t[i].l).k=k:=by
 rw[jX hi,eZ hi] at h
 have aux:∀ q n:Int,n≠0->((if t[i].k=5 then q else 0) == n)=true->t[i].k=5/\q=n:=fun q n hn h=>by
  by_cases h5:t[i].k=5
  ·rw[if_pos h5] at h
   exact⟨h5,by simpa using h⟩
  ·rw[if_neg h5] at h
   exact absurd (by simpa using h) (fun e:(0:Int)=n=>hn e.symm)
 rcases hk with ⟨rfl,rfl⟩ | ⟨rfl,rfl⟩ | ⟨rfl,rfl⟩ | ⟨rfl,rfl⟩ | ⟨rfl,rfl⟩
 ·have h2:((((if t[i].k=5 then (ay t t[i].l).k else 0) == 1) && dX r (i:Int)) && dX r t[i].l)=true:=h
  simp only[Bool.and_eq_true] at h2
  exact aux _ 1 (by decide) h2.1.1
 ·have h2:(((if t[i].k=5 then (ay t t[i].l).k else 0) == 2) && dX r (i:Int))=true:=h
  simp only[Bool.and_eq_true] at h2
  exact aux _ 2 (by decide) h2.1
 ·have h2:(((if t[i].k=5 then (ay t t[i].l).k else 0) == 3) && dX r (i:Int))=true:=h
  simp only[Bool.and_eq_true] at h2
  exact aux _ 3 (by decide) h2.1
 ·have h2:(((if t[i].k=5 then (ay t t[i].l).k else 0) == 4) && dX r (i:Int))=true:=h
  simp only[Bool.and_eq_true] at h2
  exact aux _ 4 (by decide) h2.1
 ·have h2:(((if t[i].k=5 then (ay t t[i].l).k else 0) == 5) && dX r (i:Int))=true:=h
  simp only[Bool.and_eq_true] at h2
  exact aux _ 5 (by decide) h2.1
theorem nJ {t:List Nd} {r:List Nat} {g:Int} {i:Nat} (hi:i<t.length) (ru k:Int) (hk:(ru=3/\k=3)\/(ru=8/\k=5)\/(ru=9/\k=3)\/(ru=10/\k=4)\/(ru=11/\k=4)\/(ru=12/\k=4)) (h:findF t r g ru (i:Int)=true):t[i].k=k:=by
 rw[jX hi,eZ hi] at h
 rcases hk with ⟨rfl,rfl⟩ | ⟨rfl,rfl⟩ | ⟨rfl,rfl⟩ | ⟨rfl,rfl⟩ | ⟨rfl,rfl⟩ | ⟨rfl,rfl⟩
 ·have h2:((t[i].k == 3) && dX r (i:Int))=true:=h
  simp only[Bool.and_eq_true,beq_iff_eq] at h2
  exact h2.1
 ·have h2:((t[i].k == 5) && ((i:Int) == g))=true:=h
  simp only[Bool.and_eq_true,beq_iff_eq] at h2
  exact h2.1
 ·have h2:((t[i].k == 3) && ((i:Int) == g))=true:=h
  simp only[Bool.and_eq_true,beq_iff_eq] at h2
  exact h2.1
 ·have h2:((t[i].k == 4) && dX r (i:Int))=true:=h
  simp only[Bool.and_eq_true,beq_iff_eq] at h2
  exact h2.1
 ·have h2:((t[i].k == 4) && ((i:Int) == g))=true:=h
  simp only[Bool.and_eq_true,beq_iff_eq] at h2
  exact h2.1
 ·have h2:((t[i].k == 4) && ((i:Int) == g))=true:=h
  simp only[Bool.and_eq_true,beq_iff_eq] at h2
  exact h2.1
theorem Ec {t:List Nd} {r:List Nat} {g ru main:Int} (hz:eP t r g=0) (hf:findF t r g ru main=true):aO t r g ru main=if (jE (ru - 1).toNat t r g (bO t main)).2.2=true then ([],t,30) else ((jE (ru - 1).toNat t r g (bO t main)).1,(jE (ru - 1).toNat t r g (bO t main)).2.1,0):=by
 unfold aO
 rw[if_neg (by simp[hz]),if_neg (by simp[hf])]
theorem Al {t:List Nd} {i:Nat} (hi:i<t.length) (h5:t[i].k=5) {xl:Nat} (hx:t[i].l=xl) (hxt:xl<t.length):bO t (i:Int)=⟨i,5,xl,t[i].r,t[xl].k,t[xl].l,t[xl].r⟩:=by
 rw[eZ hi,hx,bJ hxt,h5,if_pos rfl,if_pos rfl,if_pos rfl]
theorem wB {t:List Nd} {r:List Nat} (hr:Ok r) (g ru main:Int):(∀ s ∈ (aO t r g ru main).1,Ok s.1)/\(aO t r g ru main).1.length<=2:=by
 unfold aO
 repeat' split
 all_goals try exact⟨fun s h=>(by cases h),by simp⟩
 have hrs:∀ x:Int,Ok (Bt.bT r x):=fun x=>gu hr x
 have hw:∀ (q:List Nat) (l:List Int),Ok q->Ok (aD q l):=fun q l h=>gK l h
 unfold jE
 split <;> refine⟨fun s h => ?_,by simp⟩ <;> simp at h
 case h_1=>subst h;exact hw _ _ (hrs _)
 case h_2=>subst h;exact hw _ _ (hrs _)
 case h_3=>subst h;exact hrs _
 case h_4=>subst h;exact hw _ _ (hrs _)
 case h_5=>subst h;exact hw _ _ (hrs _)
 case h_6=>subst h;exact hw _ _ hr
 case h_7=>rcases h with h | h <;> subst h <;> exact hr
 case h_8=>rcases h with h | h <;> subst h <;> exact hw _ _ (hrs _)
 case h_9=>subst h;exact hr
 case h_10=>subst h;exact hr
 case h_11=>rcases h with h | h <;> subst h <;> exact hw _ _ (hrs _)
def iT (t:List Nd) (r:List Nat) (g:Int):Bool:=((Bt.Bs.nums r).map fun n:Nat=>(n:Int)).all (Fm.has t) && Fm.has t g
theorem sJ {t:List Nd} {r:List Nat} (hr:Ok r) (g:Int):eP t r g=if iT t r g then 0 else 31:=by
 unfold eP iT
 have hn:(Bt.sF r (t.length:Int)).isSome = !((Bt.Bs.nums r).map fun n:Nat=>(n:Int)).all (Fm.has t):=by
  unfold Bt.sF
  rw[Int.toNat_natCast]
  cases h:Bt.Bs.next r t.length with
  | none=>
   have h2:=Bt.Bs.LC hr h
   have:((Bt.Bs.nums r).map fun n:Nat=>(n:Int)).all (Fm.has t)=true:=by
    rw[List.all_eq_true]
    intro x hx
    obtain⟨n,hn,rfl⟩:=List.mem_map.1 hx
    have h3:=(Bt.Bs.oN.1 hn).2
    rw[Fm.dJ]
    refine⟨by omega,?_⟩
    by_cases hlt:n<t.length
    ·omega
    ·rw[h2 n (by omega)] at h3
     cases h3
   rw[this]
   rfl
  | some m=>
   obtain⟨h1,h2,h3,_⟩:=Bt.Bs.next_lt h
   have:((Bt.Bs.nums r).map fun n:Nat=>(n:Int)).all (Fm.has t)=false:=by
    rw[List.all_eq_false]
    refine⟨(m:Int),List.mem_map.2 ⟨m,Bt.Bs.oN.2 ⟨h2,h3⟩,rfl⟩,?_⟩
    rw[Fm.dJ]
    omega
   rw[this]
   rfl
 rw[hn]
 cases ((Bt.Bs.nums r).map fun n:Nat=>(n:Int)).all (Fm.has t) <;> cases Fm.has t g <;> rfl
structure CK (w W:World) (r:List Nat) (g:Int):Prop where
 seq:bM W w.heap.size r g
 av:Below w.heap.size w W
theorem CK.later {w W W':World} {r:List Nat} {g:Int} (h:CK w W r g) (hb:Below W.heap.size W W'):CK w W' r g:=⟨h.seq.later hb h.seq.lt,h.av.trans (hb.mono h.av.size)⟩
structure Ext (t t1:List Nd):Prop where
 len:t.length<=t1.length
 p8:∀ j:Nat,j<t.length->ay t1 (j:Int)=ay t (j:Int)
theorem Ext.refl (t:List Nd):Ext t t:=⟨Nat.le_refl _,fun _ _=>rfl⟩
theorem Ext.trans {t t1 t2:List Nd} (h:Ext t t1) (h':Ext t1 t2):Ext t t2:=⟨Nat.le_trans h.len h'.len,fun j hj=>(h'.p8 j (Nat.lt_of_lt_of_le hj h.len)).trans (h.p8 j hj)⟩
theorem wD {t:List Nd} {n:Nd} (h:(Fm.put t n).2.1=0):∃ f:Nat,(Fm.put t n).1=f/\f<(Fm.put t n).2.2.length/\ay (Fm.put t n).2.2 (f:Int)=n/\Ext t (Fm.put t n).2.2:=by
 unfold Fm.put at *
 split at h
 ·rename_i hc
  rw[if_pos hc]
  split at h
  ·rename_i hm
   rw[if_pos hm]
   have hlt:=List.idxOf_lt_length_iff.2 hm
   refine⟨t.idxOf n,rfl,hlt,?_,Ext.refl t⟩
   rw[bJ hlt]
   simp
  ·rename_i hm
   rw[if_neg hm]
   split at h
   ·exact absurd h (by simp)
   ·rename_i hx
    rw[if_neg hx]
    refine⟨t.length,rfl,by simp,?_,by simp,fun j hj => ?_⟩
    ·rw[bJ (by simp)]
     simp
    ·rw[bJ (by simp;omega),bJ hj]
     simp[hj]
 ·rename_i hc
  exact absurd h hc
inductive PC (t:List Nd) (r:List Nat) (g:Int) (i:Nat):Int->List SQ->List Nd->Prop
 | bot (hk:(ay t (i:Int)).k=2) (hm:Bt.Bs.has r i=true):PC t r g i 1 [] t
 | same (hg:g=(i:Int)) (hm:Bt.Bs.has r i=true):PC t r g i 2 [] t
 | Ed (x y:Nat) (hn:ay t (i:Int)=aH 3 x y) (hx:x<i) (hy:y<i) (hm:Bt.Bs.has r i=true):PC t r g i 3 [(Bt.Bs.put (Bt.Bs.put (Bt.Bs.drop r i) x) y,g)] t
 | atom (x y:Nat) (hn:ay t (i:Int)=aH 5 x y) (hx:x<i) (hy:y<i) (hm:Bt.Bs.has r i=true) (ha:Bt.Bs.has r x=true):PC t r g i 4 [(Bt.Bs.put (Bt.Bs.drop r i) y,g)] t
 | MI (x y:Nat) (hn:ay t (i:Int)=aH 5 x y) (hx:x<i) (hy:y<i) (hm:Bt.Bs.has r i=true) (hk:(ay t (x:Int)).k=2):PC t r g i 5 [(Bt.Bs.drop r i,g)] t
 | Am (x y c d:Nat) (hn:ay t (i:Int)=aH 5 x y) (hx:x<i) (hy:y<i) (hm:Bt.Bs.has r i=true) (hn2:ay t (x:Int)=aH 3 c d) (hc:c<x) (hd:d<x) (f1 f2:Nat) (t1 t2:List Nd) (e1:Ext t t1) (e2:Ext t1 t2) (h1:f1<t1.length) (h2:f2<t2.length) (n1:ay t1 (f1:Int)=aH 5 d y) (n2:ay t2 (f2:Int)=aH 5 c f1):PC t r g i 6 [(Bt.Bs.put (Bt.Bs.drop r i) f2,g)] t2
 | GZ (x y c d:Nat) (hn:ay t (i:Int)=aH 5 x y) (hx:x<i) (hy:y<i) (hm:Bt.Bs.has r i=true) (hn2:ay t (x:Int)=aH 4 c d) (hc:c<x) (hd:d<x) (f1 f2:Nat) (t1 t2:List Nd) (e1:Ext t t1) (e2:Ext t1 t2) (h1:f1<t1.length) (h2:f2<t2.length) (n1:ay t1 (f1:Int)=aH 5 c y) (n2:ay t2 (f2:Int)=aH 5 d y):PC t r g i 7 [(Bt.Bs.put (Bt.Bs.put (Bt.Bs.drop r i) f1) f2,g)] t2
 | Ee (x y:Nat) (hn:ay t (i:Int)=aH 5 x y) (hx:x<i) (hy:y<i) (hg:g=(i:Int)):PC t r g i 8 [(Bt.Bs.put r x,(y:Int))] t
 | Ef (x y:Nat) (hn:ay t (i:Int)=aH 3 x y) (hx:x<i) (hy:y<i) (hg:g=(i:Int)):PC t r g i 9 [(r,(x:Int)),(r,(y:Int))] t
 | MJ (x y:Nat) (hn:ay t (i:Int)=aH 4 x y) (hx:x<i) (hy:y<i) (hm:Bt.Bs.has r i=true):PC t r g i 10 [(Bt.Bs.put (Bt.Bs.drop r i) x,g),(Bt.Bs.put (Bt.Bs.drop r i) y,g)] t
 | Ao (x y:Nat) (hn:ay t (i:Int)=aH 4 x y) (hx:x<i) (hy:y<i) (hg:g=(i:Int)):PC t r g i 11 [(r,(x:Int))] t
 | Ap (x y:Nat) (hn:ay t (i:Int)=aH 4 x y) (hx:x<i) (hy:y<i) (hg:g=(i:Int)):PC t r g i 12 [(r,(y:Int))] t
 | yx (x y c d:Nat) (hn:ay t (i:Int)=aH 5 x y) (hx:x<i) (hy:y<i) (hm:Bt.Bs.has r i=true) (hn2:ay t (x:Int)=aH 5 c d) (hc:c<x) (hd:d<x) (f1:Nat) (t1:List Nd) (e1:Ext t t1) (h1:f1<t1.length) (n1:ay t1 (f1:Int)=aH 5 d y):PC t r g i 13 [(Bt.Bs.put (Bt.Bs.drop r i) f1,(x:Int)),(Bt.Bs.put (Bt.Bs.drop r i) y,g)] t1
theorem fI {t:List Nd} (hO:Fm.Ok t) {i:Nat} (hi:i<t.length) {k:Int} (hk:t[i].k=k) (h3:k=3\/k=4\/k=5):∃ x y:Nat,ay t (i:Int)=aH k x y/\x<i/\y<i/\t[i].l=x/\t[i].r=y:=by
 subst hk
 obtain⟨x,y,hx,hy,lx,ly⟩:=kids hO hi h3
 have hs:t[i].s=⟨#[]⟩:=by
  have hc:=Fm.qV (hO.Cj i hi)
  unfold Fm.shaped at hc
  rw[if_neg (by omega),if_neg (by omega)] at hc
  split at hc
  ·simp only[Bool.and_eq_true,beq_iff_eq] at hc
   have h0:=hc.1.1
   have:t[i].s.data=#[]:=Array.eq_empty_of_size_eq_zero h0
   cases hh:t[i].s with
   | mk d=>rw[hh] at this;simp only at this;rw[this]
  ·cases hc
 refine⟨x,y,?_,lx,ly,hx,hy⟩
 rw[bJ hi]
 unfold aH
 rw[<- hx,<- hy,<- hs]
theorem jl {r:List Nat} {n:Nat} (h:n<1024):Bt.bT r (n:Int)=Bt.Bs.drop r n:=by
 unfold Bt.bT
 rw[if_pos ⟨by omega,by omega⟩]
 simp
theorem qO {r:List Nat} {n:Nat} (h:n<1024):aD r [(n:Int)]=Bt.Bs.put r n:=by
 have e:aD r [(n:Int)]=(Bt.iP r (n:Int)).1:=by rw[aD,aD]
 rw[e,kH h]
theorem Qs {r:List Nat} {n m:Nat} (h:n<1024) (h':m<1024):aD r [(n:Int),(m:Int)]=Bt.Bs.put (Bt.Bs.put r n) m:=by
 rw[aD,kH h,qO h']
theorem Sd {r:List Nat} (hr:Ok r) {n:Nat} (hn:n<1024) (h:dX r (n:Int)=true):Bt.Bs.has r n=true:=by
 rw[Ak hr hn] at h
 unfold Bt.Bs.Dl at h
 simp only[Bool.and_eq_true] at h
 simpa using h.2
theorem uf {t:List Nd} (hO:Fm.Ok t) {r:List Nat} (hr:Ok r) {g ru main:Int} (hz:eP t r g=0) (hf:findF t r g ru main=true) (h0:(aO t r g ru main).2.2=0) :
 ∃ i:Nat,main=i/\i<t.length/\PC t r g i ru (aO t r g ru main).1 (aO t r g ru main).2.1/\Fm.Ok (aO t r g ru main).2.1:=by
 have hh:Fm.has t main=true:=by
  unfold findF at hf
  simp only[Bool.and_eq_true] at hf
  exact hf.1.1
 have JA:=Bu hf
 have hpos:1<=ru:=by
  unfold findF at hf
  simp only[Bool.and_eq_true,decide_eq_true_eq] at hf
  exact hf.1.2.1
 have h1:=Fm.dJ.1 hh
 obtain⟨i,rfl⟩:∃ i:Nat,main=i:=⟨main.toNat,by omega⟩
 have hi:i<t.length:=by omega
 have hlen:=hO.len
 have hfm:=hf
 rw[jX hi] at hfm
 simp only[Bool.and_eq_true] at hfm
 have hfs:=hfm.2
 have acr:∀ {t1:List Nd},Fm.Ok t1->∀ f:Nat,f<t1.length->f<1024:=fun h f hf=>Nat.lt_of_lt_of_le hf h.len
 refine⟨i,rfl,hi,?_⟩
 rw[Ec hz hf] at h0 |-
 have rH:ru=1\/ru=2\/ru=3\/ru=4\/ru=5\/ru=6\/ru=7\/ru=8\/ru=9\/ru=10\/ru=11\/ru=12\/ru=13:=by omega
 have hL:∀ n:Nat,n<t.length->dX r (n:Int)=true->Bt.Bs.has r n=true:=fun n hn h=>Sd hr (by omega) h
 rcases rH with rfl | rfl | rfl | rfl | rfl | rfl | rfl | rfl | rfl | rfl | rfl | rfl | rfl
 ·rw[eZ hi] at hfs
  have h2:((t[i].k == 2) && dX r (i:Int))=true:=hfs
  simp only[Bool.and_eq_true,beq_iff_eq] at h2
  exact⟨.bot (by rw[bJ hi];exact h2.1) (hL i hi h2.2),hO⟩
 ·rw[eZ hi] at hfs
  have h2:(((i:Int) == g) && dX r (i:Int))=true:=hfs
  simp only[Bool.and_eq_true,beq_iff_eq] at h2
  exact⟨.same h2.1.symm (hL i hi h2.2),hO⟩
 ·obtain⟨x,y,hn,hx,hy,ex,ey⟩:=fI hO hi (nJ hi 3 3 (by omega) hf) (by omega)
  rw[eZ hi] at hfs |-
  have h2:((t[i].k == 3) && dX r (i:Int))=true:=hfs
  simp only[Bool.and_eq_true,beq_iff_eq] at h2
  rw[ex,ey]
  show PC t r g i 3 [(aD (Bt.bT r (i:Int)) [(x:Int),(y:Int)],g)] t/\Fm.Ok t
  rw[jl (by omega),Qs (by omega) (by omega)]
  exact⟨.Ed x y hn hx hy (hL i hi h2.2),hO⟩
 ·obtain⟨x,y,hn,hx,hy,ex,ey⟩:=fI hO hi (rM hi 4 1 (by omega) hf).1 (by omega)
  rw[eZ hi] at hfs |-
  rw[ex] at hfs
  have h2:((((if t[i].k=5 then (ay t (x:Int)).k else 0) == 1) && dX r (i:Int)) && dX r (x:Int))=true:=hfs
  simp only[Bool.and_eq_true] at h2
  rw[ex,ey]
  show PC t r g i 4 [(aD (Bt.bT r (i:Int)) [(y:Int)],g)] t/\Fm.Ok t
  rw[jl (by omega),qO (by omega)]
  exact⟨.atom x y hn hx hy (hL i hi h2.1.2) (hL x (by omega) h2.2),hO⟩
 ·obtain⟨hk5,hk2⟩:=rM hi 5 2 (by omega) hf
  obtain⟨x,y,hn,hx,hy,ex,ey⟩:=fI hO hi hk5 (by omega)
  rw[eZ hi] at hfs |-
  rw[ex] at hk2
  have h2:(((if t[i].k=5 then (ay t t[i].l).k else 0) == 2) && dX r (i:Int))=true:=hfs
  simp only[Bool.and_eq_true] at h2
  show PC t r g i 5 [(Bt.bT r (i:Int),g)] t/\Fm.Ok t
  rw[jl (by omega)]
  exact⟨.MI x y hn hx hy (hL i hi h2.2) hk2,hO⟩
 ·obtain⟨hk5,hk2⟩:=rM hi 6 3 (by omega) hf
  obtain⟨x,y,hn,hx,hy,ex,ey⟩:=fI hO hi hk5 (by omega)
  rw[ex,bJ (show x<t.length by omega)] at hk2
  obtain⟨c,d,hn2,hc,hd,ec,ed⟩:=fI hO (show x<t.length by omega) hk2 (by omega)
  have h2:(((if t[i].k=5 then (ay t t[i].l).k else 0) == 3) && dX r (i:Int))=true:=by rw[eZ hi] at hfs;exact hfs
  simp only[Bool.and_eq_true] at h2
  rw[Al hi hk5 ex (show x<t.length by omega),ec,ed,ey] at h0 |-
  have e0:(if ((false || ((Fm.put t (aH 5 (d:Int) (y:Int))).2.1 != 0)) || ((Fm.put (Fm.put t (aH 5 (d:Int) (y:Int))).2.2 (aH 5 (c:Int) (Fm.put t (aH 5 (d:Int) (y:Int))).1)).2.1 != 0))=true then (([]:List SQ),t,(30:Int)) else ([(aD (Bt.bT r (i:Int)) [(Fm.put (Fm.put t (aH 5 (d:Int) (y:Int))).2.2 (aH 5 (c:Int) (Fm.put t (aH 5 (d:Int) (y:Int))).1)).1],g)],(Fm.put (Fm.put t (aH 5 (d:Int) (y:Int))).2.2 (aH 5 (c:Int) (Fm.put t (aH 5 (d:Int) (y:Int))).1)).2.2,0)).2.2=0:=h0
  have hb:((false || ((Fm.put t (aH 5 (d:Int) (y:Int))).2.1 != 0)) || ((Fm.put (Fm.put t (aH 5 (d:Int) (y:Int))).2.2 (aH 5 (c:Int) (Fm.put t (aH 5 (d:Int) (y:Int))).1)).2.1 != 0))=false:=by
   cases hq:((false || ((Fm.put t (aH 5 (d:Int) (y:Int))).2.1 != 0)) || ((Fm.put (Fm.put t (aH 5 (d:Int) (y:Int))).2.2 (aH 5 (c:Int) (Fm.put t (aH 5 (d:Int) (y:Int))).1)).2.1 != 0))
   ·rfl
   ·rw[hq,if_pos rfl] at e0
    exact absurd (show(30:Int)=0 from e0) (by decide)
  show PC t r g i 6 (if _=true then (([]:List SQ),t,(30:Int)) else _).1 (if _=true then (([]:List SQ),t,(30:Int)) else _).2.1/\Fm.Ok (if _=true then (([]:List SQ),t,(30:Int)) else _).2.1
  rw[if_neg (by rw[show(jE ((6:Int) - 1).toNat t r g ⟨(i:Int),5,(x:Int),(y:Int),t[x].k,(c:Int),(d:Int)⟩).2.2=_ from hb];decide)]
  simp only[Bool.false_or,Bool.or_eq_false_iff,bne_eq_false_iff_eq] at hb
  obtain⟨f1,e1,l1,n1,x1⟩:=wD hb.1
  have iL:Fm.Ok (Fm.put t (aH 5 (d:Int) (y:Int))).2.2:=Fm.qU hO (lZ (by omega) (by omega) (Fm.eT (by omega) (by omega)) (Fm.eT (by omega) (by omega)))
  have hl1:=iL.len
  obtain⟨f2,e2,l2,n2,x2⟩:=wD hb.2
  have hO2:Fm.Ok (Fm.put (Fm.put t (aH 5 (d:Int) (y:Int))).2.2 (aH 5 (c:Int) (Fm.put t (aH 5 (d:Int) (y:Int))).1)).2.2:=Fm.qU iL (lZ (by omega) (by omega) (Fm.eT (by omega) (by omega)) (Fm.eT (by omega) (by omega)))
  have hl2:=hO2.len
  show PC t r g i 6 [(aD (Bt.bT r (i:Int)) [(Fm.put (Fm.put t (aH 5 (d:Int) (y:Int))).2.2 (aH 5 (c:Int) (Fm.put t (aH 5 (d:Int) (y:Int))).1)).1],g)] (Fm.put (Fm.put t (aH 5 (d:Int) (y:Int))).2.2 (aH 5 (c:Int) (Fm.put t (aH 5 (d:Int) (y:Int))).1)).2.2/\_
  rw[e2,jl (by omega),qO (by omega)]
  exact⟨.Am x y c d hn hx hy (hL i hi h2.2) hn2 hc hd f1 f2 _ _ x1 x2 l1 l2 n1 (by rw[n2,e1]),hO2⟩
 ·obtain⟨hk5,hk2⟩:=rM hi 7 4 (by omega) hf
  obtain⟨x,y,hn,hx,hy,ex,ey⟩:=fI hO hi hk5 (by omega)
  rw[ex,bJ (show x<t.length by omega)] at hk2
  obtain⟨c,d,hn2,hc,hd,ec,ed⟩:=fI hO (show x<t.length by omega) hk2 (by omega)
  have h2:(((if t[i].k=5 then (ay t t[i].l).k else 0) == 4) && dX r (i:Int))=true:=by rw[eZ hi] at hfs;exact hfs
  simp only[Bool.and_eq_true] at h2
  rw[Al hi hk5 ex (show x<t.length by omega),ec,ed,ey] at h0 |-
  have e0:(if ((false || ((Fm.put t (aH 5 (c:Int) (y:Int))).2.1 != 0)) || ((Fm.put (Fm.put t (aH 5 (c:Int) (y:Int))).2.2 (aH 5 (d:Int) (y:Int))).2.1 != 0))=true then (([]:List SQ),t,(30:Int)) else ([(aD (Bt.bT r (i:Int)) [(Fm.put t (aH 5 (c:Int) (y:Int))).1,(Fm.put (Fm.put t (aH 5 (c:Int) (y:Int))).2.2 (aH 5 (d:Int) (y:Int))).1],g)],(Fm.put (Fm.put t (aH 5 (c:Int) (y:Int))).2.2 (aH 5 (d:Int) (y:Int))).2.2,0)).2.2=0:=h0
  have hb:((false || ((Fm.put t (aH 5 (c:Int) (y:Int))).2.1 != 0)) || ((Fm.put (Fm.put t (aH 5 (c:Int) (y:Int))).2.2 (aH 5 (d:Int) (y:Int))).2.1 != 0))=false:=by
   cases hq:((false || ((Fm.put t (aH 5 (c:Int) (y:Int))).2.1 != 0)) || ((Fm.put (Fm.put t (aH 5 (c:Int) (y:Int))).2.2 (aH 5 (d:Int) (y:Int))).2.1 != 0))
   ·rfl
   ·rw[hq,if_pos rfl] at e0
    exact absurd (show(30:Int)=0 from e0) (by decide)
  show PC t r g i 7 (if _=true then (([]:List SQ),t,(30:Int)) else _).1 (if _=true then (([]:List SQ),t,(30:Int)) else _).2.1/\Fm.Ok (if _=true then (([]:List SQ),t,(30:Int)) else _).2.1
  rw[if_neg (by rw[show(jE ((7:Int) - 1).toNat t r g ⟨(i:Int),5,(x:Int),(y:Int),t[x].k,(c:Int),(d:Int)⟩).2.2=_ from hb];decide)]
  simp only[Bool.false_or,Bool.or_eq_false_iff,bne_eq_false_iff_eq] at hb
  obtain⟨f1,e1,l1,n1,x1⟩:=wD hb.1
  have iL:Fm.Ok (Fm.put t (aH 5 (c:Int) (y:Int))).2.2:=Fm.qU hO (lZ (by omega) (by omega) (Fm.eT (by omega) (by omega)) (Fm.eT (by omega) (by omega)))
  have hl1:=iL.len
  obtain⟨f2,e2,l2,n2,x2⟩:=wD hb.2
  have hO2:Fm.Ok (Fm.put (Fm.put t (aH 5 (c:Int) (y:Int))).2.2 (aH 5 (d:Int) (y:Int))).2.2:=Fm.qU iL (lZ (by omega) (by omega) (Fm.eT (by omega) (by omega)) (Fm.eT (by omega) (by omega)))
  have hl2:=hO2.len
  show PC t r g i 7 [(aD (Bt.bT r (i:Int)) [(Fm.put t (aH 5 (c:Int) (y:Int))).1,(Fm.put (Fm.put t (aH 5 (c:Int) (y:Int))).2.2 (aH 5 (d:Int) (y:Int))).1],g)] (Fm.put (Fm.put t (aH 5 (c:Int) (y:Int))).2.2 (aH 5 (d:Int) (y:Int))).2.2/\_
  rw[e1,e2,jl (by omega),Qs (by omega) (by omega)]
  exact⟨.GZ x y c d hn hx hy (hL i hi h2.2) hn2 hc hd f1 f2 _ _ x1 x2 l1 l2 n1 n2,hO2⟩
 ·obtain⟨x,y,hn,hx,hy,ex,ey⟩:=fI hO hi (nJ hi 8 5 (by omega) hf) (by omega)
  rw[eZ hi] at hfs |-
  have h2:((t[i].k == 5) && ((i:Int) == g))=true:=hfs
  simp only[Bool.and_eq_true,beq_iff_eq] at h2
  rw[ex,ey]
  show PC t r g i 8 [(aD r [(x:Int)],(y:Int))] t/\Fm.Ok t
  rw[qO (by omega)]
  exact⟨.Ee x y hn hx hy h2.2.symm,hO⟩
 ·obtain⟨x,y,hn,hx,hy,ex,ey⟩:=fI hO hi (nJ hi 9 3 (by omega) hf) (by omega)
  rw[eZ hi] at hfs |-
  have h2:((t[i].k == 3) && ((i:Int) == g))=true:=hfs
  simp only[Bool.and_eq_true,beq_iff_eq] at h2
  rw[ex,ey]
  exact⟨.Ef x y hn hx hy h2.2.symm,hO⟩
 ·obtain⟨x,y,hn,hx,hy,ex,ey⟩:=fI hO hi (nJ hi 10 4 (by omega) hf) (by omega)
  rw[eZ hi] at hfs |-
  have h2:((t[i].k == 4) && dX r (i:Int))=true:=hfs
  simp only[Bool.and_eq_true,beq_iff_eq] at h2
  rw[ex,ey]
  show PC t r g i 10 [(aD (Bt.bT r (i:Int)) [(x:Int)],g),(aD (Bt.bT r (i:Int)) [(y:Int)],g)] t/\Fm.Ok t
  rw[jl (by omega),qO (by omega),qO (by omega)]
  exact⟨.MJ x y hn hx hy (hL i hi h2.2),hO⟩
 ·obtain⟨x,y,hn,hx,hy,ex,ey⟩:=fI hO hi (nJ hi 11 4 (by omega) hf) (by omega)
  rw[eZ hi] at hfs |-
  have h2:((t[i].k == 4) && ((i:Int) == g))=true:=hfs
  simp only[Bool.and_eq_true,beq_iff_eq] at h2
  rw[ex,ey]
  exact⟨.Ao x y hn hx hy h2.2.symm,hO⟩
 ·obtain⟨x,y,hn,hx,hy,ex,ey⟩:=fI hO hi (nJ hi 12 4 (by omega) hf) (by omega)
  rw[eZ hi] at hfs |-
  have h2:((t[i].k == 4) && ((i:Int) == g))=true:=hfs
  simp only[Bool.and_eq_true,beq_iff_eq] at h2
  rw[ex,ey]
  exact⟨.Ap x y hn hx hy h2.2.symm,hO⟩
 ·obtain⟨hk5,hk2⟩:=rM hi 13 5 (by omega) hf
  obtain⟨x,y,hn,hx,hy,ex,ey⟩:=fI hO hi hk5 (by omega)
  rw[ex,bJ (show x<t.length by omega)] at hk2
  obtain⟨c,d,hn2,hc,hd,ec,ed⟩:=fI hO (show x<t.length by omega) hk2 (by omega)
  have h2:(((if t[i].k=5 then (ay t t[i].l).k else 0) == 5) && dX r (i:Int))=true:=by rw[eZ hi] at hfs;exact hfs
  simp only[Bool.and_eq_true] at h2
  rw[Al hi hk5 ex (show x<t.length by omega),ec,ed,ey] at h0 |-
  have e0:(if (false || ((Fm.put t (aH 5 (d:Int) (y:Int))).2.1 != 0))=true then (([]:List SQ),t,(30:Int)) else ([(aD (Bt.bT r (i:Int)) [(Fm.put t (aH 5 (d:Int) (y:Int))).1],(x:Int)),(aD (Bt.bT r (i:Int)) [(y:Int)],g)],(Fm.put t (aH 5 (d:Int) (y:Int))).2.2,0)).2.2=0:=h0
  have hb:(false || ((Fm.put t (aH 5 (d:Int) (y:Int))).2.1 != 0))=false:=by
   cases hq:(false || ((Fm.put t (aH 5 (d:Int) (y:Int))).2.1 != 0))
   ·rfl
   ·rw[hq,if_pos rfl] at e0
    exact absurd (show(30:Int)=0 from e0) (by decide)
  show PC t r g i 13 (if _=true then (([]:List SQ),t,(30:Int)) else _).1 (if _=true then (([]:List SQ),t,(30:Int)) else _).2.1/\Fm.Ok (if _=true then (([]:List SQ),t,(30:Int)) else _).2.1
  rw[if_neg (by rw[show(jE ((13:Int) - 1).toNat t r g ⟨(i:Int),5,(x:Int),(y:Int),t[x].k,(c:Int),(d:Int)⟩).2.2=_ from hb];decide)]
  simp only[Bool.false_or,bne_eq_false_iff_eq] at hb
  obtain⟨f1,e1,l1,n1,x1⟩:=wD hb
  have iL:Fm.Ok (Fm.put t (aH 5 (d:Int) (y:Int))).2.2:=Fm.qU hO (lZ (by omega) (by omega) (Fm.eT (by omega) (by omega)) (Fm.eT (by omega) (by omega)))
  have hl1:=iL.len
  show PC t r g i 13 [(aD (Bt.bT r (i:Int)) [(Fm.put t (aH 5 (d:Int) (y:Int))).1],(x:Int)),(aD (Bt.bT r (i:Int)) [(y:Int)],g)] (Fm.put t (aH 5 (d:Int) (y:Int))).2.2/\_
  rw[e1,jl (by omega),qO (by omega),qO (by omega)]
  exact⟨.yx x y c d hn hx hy (hL i hi h2.2) hn2 hc hd f1 _ x1 l1 n1,iL⟩
def Rsp (n:Nd) (f:Nat->Bool) (j:Nat):Prop:=(n.k=2->f j=false)/\(n.k=3->f j=(f n.l.toNat && f n.r.toNat))/\(n.k=4->f j=(f n.l.toNat || f n.r.toNat))/\(n.k=5->f j=(!f n.l.toNat || f n.r.toNat))
def uQ (t:List Nd) (f:Nat->Bool):Prop:=∀ j:Nat,j<t.length->Rsp (ay t (j:Int)) f j
theorem uQ.ext {t t1:List Nd} {f:Nat->Bool} (h:uQ t1 f) (e:Ext t t1):uQ t f:=fun j hj=>by
 have:=h j (Nat.lt_of_lt_of_le hj e.len)
 rwa [e.p8 j hj] at this
theorem uQ.and {t:List Nd} {f:Nat->Bool} (h:uQ t f) {j x y:Nat} (hj:j<t.length) (hn:ay t (j:Int)=aH 3 x y):f j=(f x && f y):=by
 have h1:=(h j hj).2.1
 rw[hn] at h1
 exact h1 rfl
theorem uQ.or {t:List Nd} {f:Nat->Bool} (h:uQ t f) {j x y:Nat} (hj:j<t.length) (hn:ay t (j:Int)=aH 4 x y):f j=(f x || f y):=by
 have h1:=(h j hj).2.2.1
 rw[hn] at h1
 exact h1 rfl
theorem uQ.imp {t:List Nd} {f:Nat->Bool} (h:uQ t f) {j x y:Nat} (hj:j<t.length) (hn:ay t (j:Int)=aH 5 x y):f j=(!f x || f y):=by
 have h1:=(h j hj).2.2.2
 rw[hn] at h1
 exact h1 rfl
def tt (f:Nat->Bool) (r:List Nat):Prop:=∀ n,n<1024->Bt.Bs.has r n=true->f n=true
theorem nH {r:List Nat} (hr:Ok r) {n:Nat} (hn:n<1024):Ok (Bt.Bs.drop r n):=by
 have:=gu hr (n:Int)
 rwa [jl hn] at this
def wrg (f:Nat->Bool) (s:SQ):Prop:=tt f s.1/\f s.2.toNat=false
def wrF (f:Nat->Bool) (s:SQ):Bool:=(Bt.Bs.nums s.1).all f && !f s.2.toNat
section
variable {t:List Nd} {r:List Nat} {g:Int} {i:Nat} {ru:Int} {l:List SQ} {t':List Nd} {f:Nat->Bool}
theorem wE (h:PC t r g i ru l t'):Ext t t':=by
 cases h with
 | Am x y c d hn hx hy hm hn2 hc hd f1 f2 t1 t2 e1 e2=>exact e1.trans e2
 | GZ x y c d hn hx hy hm hn2 hc hd f1 f2 t1 t2 e1 e2=>exact e1.trans e2
 | yx x y c d hn hx hy hm hn2 hc hd f1 t1 e1=>exact e1
 | _=>exact Ext.refl t
def eH (n:Nat) (s:SQ):Prop:=(∀ m,m<1024->Bt.Bs.has s.1 m=true->m<n)/\0<=s.2/\s.2<n
theorem mh {t:List Nd} {s:SQ}:iT t s.1 s.2=true ↔ eH t.length s:=by
 unfold iT eH
 rw[Bool.and_eq_true,List.all_eq_true,Fm.dJ]
 refine and_congr ⟨fun h m hm hh => ?_,fun h x hx => ?_⟩ Iff.rfl
 ·have:=Fm.dJ.1 (h (m:Int) (List.mem_map.2 ⟨m,Bt.Bs.oN.2 ⟨hm,hh⟩,rfl⟩))
  omega
 ·obtain⟨m,hm,rfl⟩:=List.mem_map.1 hx
  have:=Bt.Bs.oN.1 hm
  exact Fm.dJ.2 ⟨by omega,by have:=h m this.1 this.2;omega⟩
theorem jL {n m:Nat} {r:List Nat} {g:Int} (hr:Ok r) (hm:m<1024) (hn:m<n) (h:eH n (r,g)):eH n (Bt.Bs.put r m,g):=⟨fun j hj hh=>by
 have hh:Bt.Bs.has (Bt.Bs.put r m) j=true:=hh
 rw[Bt.Bs.j5 hr hm,Bool.or_eq_true,decide_eq_true_eq] at hh
 rcases hh with hh | rfl
 ·exact h.1 j hj hh
 ·exact hn,h.2⟩
theorem O7 {n m:Nat} {r:List Nat} {g:Int} (hr:Ok r) (hm:m<1024) (h:eH n (r,g)):eH n (Bt.Bs.drop r m,g):=⟨fun j hj hh=>by
 have hh:Bt.Bs.has (Bt.Bs.drop r m) j=true:=hh
 rw[Bt.Bs.oM hr hm,Bool.and_eq_true] at hh
 exact h.1 j hj hh.1,h.2⟩
theorem oU {n:Nat} {r:List Nat} {g g':Int} (h:eH n (r,g)) (h0:0<=g') (h1:g'<n):eH n (r,g'):=⟨h.1,h0,h1⟩
theorem O8 (nK:Fm.Ok t') (hr:Ok r) (hi:i<t.length) (h:PC t r g i ru l t') (hq:eH t.length (r,g)):eH t'.length (r,g)/\∀ s ∈ l,eH t'.length s:=by
 have hlen:=nK.len
 have hxl:=(wE h).len
 have hd:=nH hr (show i<1024 by omega)
 have hq':eH t'.length (r,g):=⟨fun m hm hh=>Nat.lt_of_lt_of_le (hq.1 m hm hh) hxl,hq.2.1,by have:=hq.2.2;simp only at this |-;omega⟩
 refine⟨hq',?_⟩
 have ug:=O7 hr (show i<1024 by omega) hq'
 cases h with
 | bot hk hm=>intro s hs;cases hs
 | same hg hm=>intro s hs;cases hs
 | Ed x y hn hx hy hm=>
  intro s hs
  obtain rfl:=List.mem_singleton.1 hs
  exact jL (Bt.Bs.jy hd _) (by omega) (by omega) (jL hd (by omega) (by omega) ug)
 | atom x y hn hx hy hm ha=>
  intro s hs
  obtain rfl:=List.mem_singleton.1 hs
  exact jL hd (by omega) (by omega) ug
 | MI x y hn hx hy hm hk=>
  intro s hs
  obtain rfl:=List.mem_singleton.1 hs
  exact ug
 | Am x y c d hn hx hy hm hn2 hc hdd f1 f2 t1 t2 e1 e2 l1 l2 n1 n2=>
  intro s hs
  obtain rfl:=List.mem_singleton.1 hs
  exact jL hd (by omega) (by omega) ug
 | GZ x y c d hn hx hy hm hn2 hc hdd f1 f2 t1 t2 e1 e2 l1 l2 n1 n2=>
  intro s hs
  obtain rfl:=List.mem_singleton.1 hs
  have:=e2.len
  exact jL (Bt.Bs.jy hd _) (by omega) (by omega) (jL hd (by omega) (by omega) ug)
 | Ee x y hn hx hy hg=>
  intro s hs
  obtain rfl:=List.mem_singleton.1 hs
  exact oU (jL hr (by omega) (by omega) hq') (by omega) (by omega)
 | Ef x y hn hx hy hg=>
  intro s hs
  rcases List.mem_cons.1 hs with rfl | hs
  ·exact oU hq' (by omega) (by omega)
  ·obtain rfl:=List.mem_singleton.1 hs
   exact oU hq' (by omega) (by omega)
 | MJ x y hn hx hy hm=>
  intro s hs
  rcases List.mem_cons.1 hs with rfl | hs
  ·exact jL hd (by omega) (by omega) ug
  ·obtain rfl:=List.mem_singleton.1 hs
   exact jL hd (by omega) (by omega) ug
 | Ao x y hn hx hy hg=>
  intro s hs
  obtain rfl:=List.mem_singleton.1 hs
  exact oU hq' (by omega) (by omega)
 | Ap x y hn hx hy hg=>
  intro s hs
  obtain rfl:=List.mem_singleton.1 hs
  exact oU hq' (by omega) (by omega)
 | yx x y c d hn hx hy hm hn2 hc hdd f1 t1 e1 l1 n1=>
  intro s hs
  rcases List.mem_cons.1 hs with rfl | hs
  ·exact oU (jL hd (by omega) (by omega) ug) (by omega) (by omega)
  ·obtain rfl:=List.mem_singleton.1 hs
   exact jL hd (by omega) (by omega) ug
end
end Go.Proofs.YtkpbpecikibohaaGreatDoor

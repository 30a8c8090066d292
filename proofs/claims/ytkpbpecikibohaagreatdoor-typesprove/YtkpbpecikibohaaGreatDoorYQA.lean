import Derived.Test.YtkpbpecikibohaaGreatDoorPG
set_option linter.unusedSimpArgs false
namespace Go.Proofs.YtkpbpecikibohaaGreatDoor.Ty
open Fm (Nd)
inductive Tm where
 | mk (k:Int) (n o:ByteArray) (f:Int) (sub:List Tm)
def Tm.k:Tm->Int | .mk k _ _ _ _=>k
def Tm.n:Tm->ByteArray | .mk _ n _ _ _=>n
def Tm.o:Tm->ByteArray | .mk _ _ o _ _=>o
def Tm.f:Tm->Int | .mk _ _ _ f _=>f
def Tm.sub:Tm->List Tm | .mk _ _ _ _ s=>s
inductive Tr where
 | var (n:ByteArray)
 | lam (n:ByteArray) (a:Tr)
 | app (a b:Tr)
 | pair (a b:Tr)
 | fst (a:Tr)
 | snd (a:Tr)
 | inl (a:Tr)
 | inr (a:Tr)
 | cas (n o:ByteArray) (a b c:Tr)
 | iN (a:Tr)
 | the (f:Int) (a:Tr)
 | lt (n:ByteArray) (a b:Tr)
def e0:ByteArray:=⟨#[]⟩
def Tr.tm:Tr->Tm
 | .var n=>.mk 1 n e0 0 []
 | .lam n a=>.mk 2 n e0 0 [a.tm]
 | .app a b=>.mk 3 e0 e0 0 [a.tm,b.tm]
 | .pair a b=>.mk 4 e0 e0 0 [a.tm,b.tm]
 | .fst a=>.mk 5 e0 e0 0 [a.tm]
 | .snd a=>.mk 6 e0 e0 0 [a.tm]
 | .inl a=>.mk 7 e0 e0 0 [a.tm]
 | .inr a=>.mk 8 e0 e0 0 [a.tm]
 | .cas n o a b c=>.mk 9 n o 0 [a.tm,b.tm,c.tm]
 | .iN a=>.mk 10 e0 e0 0 [a.tm]
 | .the f a=>.mk 11 e0 e0 f [a.tm]
 | .lt n a b=>.mk 12 n e0 0 [a.tm,b.tm]
def Tr.size:Tr->Nat
 | .var _=>1
 | .lam _ a=>a.size+1
 | .app a b=>a.size+b.size+1
 | .pair a b=>a.size+b.size+1
 | .fst a=>a.size+1
 | .snd a=>a.size+1
 | .inl a=>a.size+1
 | .inr a=>a.size+1
 | .cas _ _ a b c=>a.size+b.size+c.size+1
 | .iN a=>a.size+1
 | .the _ a=>a.size+1
 | .lt _ a b=>a.size+b.size+1
abbrev Env:=ByteArray->Option Int
def upd (g:Env) (s:ByteArray) (x:Int):Env:=fun r=>if r=s then some x else g r
inductive An where
 | ok (x:Int)
 | no (e:Int) (way:List Int)
deriving DecidableEq
def An.bind (a:An) (f:Int->An):An:=match a with
 | .ok x=>f x
 | .no e w=>.no e w
def ay (t:List Nd) (i:Int):Nd:=if Fm.has t i then t.getD i.toNat Fm.z else Fm.z
def lK (t:List Nd) (way:List Int) (k:Int) (i:Int) (f:Nd->An):An:=if (ay t i).k=k then f (ay t i) else .no 130 way
abbrev Cy:=Env->List Int->An
abbrev XD:=Env->List Int->Int->An
def go (t:List Nd):Tr->Cy × XD
 | .var n=>
  let T:Cy:=fun g w=>match g n with | some x=>.ok x | none=>.no 131 w
  (T,fun g w i=>(T g w).bind fun f=>if f=i then .ok 0 else .no 130 w)
 | .lam n a=>
  (fun _ w=>.no 132 w,fun g w i=>lK t w 5 i fun d=>(go t a).2 (upd g n d.l) (w ++ [0]) d.r)
 | .app a b=>
  let T:Cy:=fun g w=>((go t a).1 g (w ++ [0])).bind fun f=>lK t w 5 f fun d=>((go t b).2 g (w ++ [1]) d.l).bind fun _=>.ok d.r
  (T,fun g w i=>(T g w).bind fun f=>if f=i then .ok 0 else .no 130 w)
 | .pair a b=>
  (fun _ w=>.no 132 w,fun g w i=>lK t w 3 i fun d=>((go t a).2 g (w ++ [0]) d.l).bind fun _=>(go t b).2 g (w ++ [1]) d.r)
 | .fst a=>
  let T:Cy:=fun g w=>((go t a).1 g (w ++ [0])).bind fun f=>lK t w 3 f fun d=>.ok d.l
  (T,fun g w i=>(T g w).bind fun f=>if f=i then .ok 0 else .no 130 w)
 | .snd a=>
  let T:Cy:=fun g w=>((go t a).1 g (w ++ [0])).bind fun f=>lK t w 3 f fun d=>.ok d.r
  (T,fun g w i=>(T g w).bind fun f=>if f=i then .ok 0 else .no 130 w)
 | .inl a=>
  (fun _ w=>.no 132 w,fun g w i=>lK t w 4 i fun d=>(go t a).2 g (w ++ [0]) d.l)
 | .inr a=>
  (fun _ w=>.no 132 w,fun g w i=>lK t w 4 i fun d=>(go t a).2 g (w ++ [0]) d.r)
 | .cas n o a b c=>
  (fun g w=>((go t a).1 g (w ++ [0])).bind fun f=>lK t w 4 f fun d=>((go t b).1 (upd g n d.l) (w ++ [1])).bind fun x=>((go t c).1 (upd g o d.r) (w ++ [2])).bind fun y=>if x=y then .ok x else .no 130 w,
   fun g w i=>((go t a).1 g (w ++ [0])).bind fun f=>lK t w 4 f fun d=>((go t b).2 (upd g n d.l) (w ++ [1]) i).bind fun _=>(go t c).2 (upd g o d.r) (w ++ [2]) i)
 | .iN a=>
  (fun _ w=>.no 132 w,fun g w _=>((go t a).1 g (w ++ [0])).bind fun f=>lK t w 2 f fun _=>.ok 0)
 | .the f a=>
  let T:Cy:=fun g w=>if Fm.has t f then ((go t a).2 g (w ++ [0]) f).bind fun _=>.ok f else .no 31 w
  (T,fun g w i=>(T g w).bind fun f=>if f=i then .ok 0 else .no 130 w)
 | .lt n a b=>
  (fun g w=>((go t a).1 g (w ++ [0])).bind fun f=>(go t b).1 (upd g n f) (w ++ [1]),
   fun g w i=>((go t a).1 g (w ++ [0])).bind fun f=>(go t b).2 (upd g n f) (w ++ [1]) i)
def told (t:List Nd) (x:Tr):Cy:=(go t x).1
def aS (t:List Nd) (x:Tr):XD:=(go t x).2
mutual
def dw:Tm->Nat->Nat
 | .mk _ _ _ _ s,most=>eu s most 1
def eu:List Tm->Nat->Nat->Nat
 | [],_,many=>many
 | x :: r,most,many=>if many=most then many else eu r most (many+dw x (most - many))
end
mutual
def mV:Tm->Nat->Nat
 | .mk _ _ _ _ s,most=>vF s most 0+1
def vF:List Tm->Nat->Nat->Nat
 | [],_,d=>d
 | x :: r,most,d=>if d+1=most then d else vF r most (max d (min (mV x (most - 1)) (most - 1)))
end
def parts (k:Int):Nat:=if k=1 then 0 else if k=3\/k=4\/k=12 then 2 else if k=9 then 3 else 1
def names (k:Int):Nat:=if k=1\/k=2\/k=12 then 1 else if k=9 then 2 else 0
def named (s:ByteArray) (y:Bool):Bool:=if y then Fm.word s.data.toList else s.size == 0
def fine (k:Int) (n o:ByteArray) (f:Int) (m:Nat):Bool :=
 decide (1<=k) && decide (k<=12) && (m == parts k && named n (decide (0<names k)) && named o (decide (1<names k))) && (f == 0 || (k == 11 && decide (0<=f) && decide (f<1024)))
mutual
def gD:Tm->Bool
 | .mk k n o f s=>fine k n o f s.length && eF s
def eF:List Tm->Bool
 | []=>true
 | x :: r=>gD x && eF r
end
def kM (x:Tm):Int:=if 65536<dw x 65537\/1024<mV x 1025 then 121 else if gD x then 0 else 120
theorem eG {s:ByteArray} (h:(s.size == 0)=true):s=e0:=by
 obtain⟨⟨l⟩⟩:=s
 simp[ByteArray.size] at h
 subst h
 rfl
theorem oJ {l:List Tm} (h:l.length=1):∃ a,l=[a]:=by
 match l,h with
 | [a],_=>exact⟨a,rfl⟩
theorem zV {l:List Tm} (h:l.length=2):∃ a b,l=[a,b]:=by
 match l,h with
 | [a,b],_=>exact⟨a,b,rfl⟩
theorem JY {l:List Tm} (h:l.length=3):∃ a b c,l=[a,b,c]:=by
 match l,h with
 | [a,b,c],_=>exact⟨a,b,c,rfl⟩
theorem AQ:∀ (m:Nat) (x:Tm),SizeOf.sizeOf x<m->gD x=true->∃ y:Tr,x=y.tm
 | 0,_,h,_=>absurd h (Nat.not_lt_zero _)
 | m+1,.mk k n o f s,hm,h=>by
  have ih:∀ a ∈ s,gD a=true->∃ y:Tr,a=y.tm:=fun a ha hs=>AQ m a (by
   have:=List.sizeOf_lt_of_mem ha
   have e:SizeOf.sizeOf (Tm.mk k n o f s)=1+SizeOf.sizeOf k+SizeOf.sizeOf n+SizeOf.sizeOf o+SizeOf.sizeOf f+SizeOf.sizeOf s:=by simp
   omega) hs
  simp only[gD,Bool.and_eq_true,fine,decide_eq_true_eq,Bool.or_eq_true,beq_iff_eq] at h
  obtain⟨⟨⟨⟨h1,h2⟩,⟨hp,hn⟩,ho⟩,hf⟩,hs⟩:=h
  have hk:k=1\/k=2\/k=3\/k=4\/k=5\/k=6\/k=7\/k=8\/k=9\/k=10\/k=11\/k=12:=by omega
  rcases hk with rfl | rfl | rfl | rfl | rfl | rfl | rfl | rfl | rfl | rfl | rfl | rfl
  all_goals simp[parts,names,named] at hp hn ho hf
  case inl=>
   subst hp;subst hf
   obtain rfl:o=e0:=eG (by simpa using ho)
   exact⟨.var n,rfl⟩
  case inr.inl=>
   obtain⟨a,rfl⟩:=oJ hp
   subst hf
   obtain rfl:o=e0:=eG (by simpa using ho)
   simp[eF] at hs
   obtain⟨y,rfl⟩:=ih a (by simp) hs
   exact⟨.lam n y,rfl⟩
  case inr.inr.inl=>
   obtain⟨a,b,rfl⟩:=zV hp
   subst hf
   obtain rfl:o=e0:=eG (by simpa using ho)
   obtain rfl:n=e0:=eG (by simpa using hn)
   simp[eF] at hs
   obtain⟨y,rfl⟩:=ih a (by simp) hs.1
   obtain⟨z,rfl⟩:=ih b (by simp) hs.2
   exact⟨.app y z,rfl⟩
  case inr.inr.inr.inl=>
   obtain⟨a,b,rfl⟩:=zV hp
   subst hf
   obtain rfl:o=e0:=eG (by simpa using ho)
   obtain rfl:n=e0:=eG (by simpa using hn)
   simp[eF] at hs
   obtain⟨y,rfl⟩:=ih a (by simp) hs.1
   obtain⟨z,rfl⟩:=ih b (by simp) hs.2
   exact⟨.pair y z,rfl⟩
  case inr.inr.inr.inr.inl=>
   obtain⟨a,rfl⟩:=oJ hp
   subst hf
   obtain rfl:o=e0:=eG (by simpa using ho)
   obtain rfl:n=e0:=eG (by simpa using hn)
   simp[eF] at hs
   obtain⟨y,rfl⟩:=ih a (by simp) hs
   exact⟨.fst y,rfl⟩
  case inr.inr.inr.inr.inr.inl=>
   obtain⟨a,rfl⟩:=oJ hp
   subst hf
   obtain rfl:o=e0:=eG (by simpa using ho)
   obtain rfl:n=e0:=eG (by simpa using hn)
   simp[eF] at hs
   obtain⟨y,rfl⟩:=ih a (by simp) hs
   exact⟨.snd y,rfl⟩
  case inr.inr.inr.inr.inr.inr.inl=>
   obtain⟨a,rfl⟩:=oJ hp
   subst hf
   obtain rfl:o=e0:=eG (by simpa using ho)
   obtain rfl:n=e0:=eG (by simpa using hn)
   simp[eF] at hs
   obtain⟨y,rfl⟩:=ih a (by simp) hs
   exact⟨.inl y,rfl⟩
  case inr.inr.inr.inr.inr.inr.inr.inl=>
   obtain⟨a,rfl⟩:=oJ hp
   subst hf
   obtain rfl:o=e0:=eG (by simpa using ho)
   obtain rfl:n=e0:=eG (by simpa using hn)
   simp[eF] at hs
   obtain⟨y,rfl⟩:=ih a (by simp) hs
   exact⟨.inr y,rfl⟩
  case inr.inr.inr.inr.inr.inr.inr.inr.inl=>
   obtain⟨a,b,c,rfl⟩:=JY hp
   subst hf
   simp[eF] at hs
   obtain⟨y,rfl⟩:=ih a (by simp) hs.1
   obtain⟨z,rfl⟩:=ih b (by simp) hs.2.1
   obtain⟨u,rfl⟩:=ih c (by simp) hs.2.2
   exact⟨.cas n o y z u,rfl⟩
  case inr.inr.inr.inr.inr.inr.inr.inr.inr.inl=>
   obtain⟨a,rfl⟩:=oJ hp
   subst hf
   obtain rfl:o=e0:=eG (by simpa using ho)
   obtain rfl:n=e0:=eG (by simpa using hn)
   simp[eF] at hs
   obtain⟨y,rfl⟩:=ih a (by simp) hs
   exact⟨.iN y,rfl⟩
  case inr.inr.inr.inr.inr.inr.inr.inr.inr.inr.inl=>
   obtain⟨a,rfl⟩:=oJ hp
   obtain rfl:o=e0:=eG (by simpa using ho)
   obtain rfl:n=e0:=eG (by simpa using hn)
   simp[eF] at hs
   obtain⟨y,rfl⟩:=ih a (by simp) hs
   exact⟨.the f y,rfl⟩
  case inr.inr.inr.inr.inr.inr.inr.inr.inr.inr.inr=>
   obtain⟨a,b,rfl⟩:=zV hp
   subst hf
   obtain rfl:o=e0:=eG (by simpa using ho)
   simp[eF] at hs
   obtain⟨y,rfl⟩:=ih a (by simp) hs.1
   obtain⟨z,rfl⟩:=ih b (by simp) hs.2
   exact⟨.lt n y z,rfl⟩
mutual
def Tm.rk:Tm->Nat
 | .mk _ _ _ _ s=>Qd s+1
def Qd:List Tm->Nat
 | []=>0
 | x :: r=>x.rk+Qd r
end
theorem Gg:∀ {s:List Tm} {y:Tm},y ∈ s->y.rk<=Qd s
 | [],_,h=>by cases h
 | x :: r,y,h=>by
  rw[Qd]
  rcases List.mem_cons.1 h with rfl | h
  ·omega
  ·have:=Gg h
   omega
theorem Cz {x y:Tm} (h:y ∈ x.sub):y.rk<x.rk:=by
 obtain⟨k,n,o,f,s⟩:=x
 have:=Gg (show y ∈ s from h)
 rw[Tm.rk]
 omega
end Go.Proofs.YtkpbpecikibohaaGreatDoor.Ty

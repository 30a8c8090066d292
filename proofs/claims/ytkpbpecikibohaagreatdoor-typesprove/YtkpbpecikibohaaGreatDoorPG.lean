set_option linter.unusedSimpArgs false
namespace Go.Proofs.YtkpbpecikibohaaGreatDoor.Fm
structure Nd where
 k:Int
 s:ByteArray
 l:Int
 r:Int
deriving DecidableEq
def z:Nd:=⟨0,⟨#[]⟩,0,0⟩
def i64 (x:Int):Prop := -9223372036854775808<=x/\x<=9223372036854775807
def good (n:Nd):Prop:=i64 n.k/\n.s.size<=140737488351232/\i64 n.l/\i64 n.r
def gP (c:UInt8):Bool:=(97<=c && c<=122) || (65<=c && c<=90)
def lq (c:UInt8):Bool:=gP c || (48<=c && c<=57) || c == 95 || c == 39
def fP:List (List UInt8):=[[97,98,111,114,116],[99,97,115,101],[102,97,108,115,101],[102,115,116],[102,117,110],[105,110],[105,110,108],[105,110,114],[108,101,116],[111,102],[115,110,100],[116,114,117,101]]
def word (l:List UInt8):Bool:=l.length != 0 && decide (l.length<=31) && gP (l.headD 0) && l.tail.all lq && !fP.contains l
def has (t:List Nd) (i:Int):Bool:=decide (0<=i) && decide (i<t.length)
def jn (k:Int):Bool:=k == 3 || k == 4 || k == 5
def shaped (t:List Nd) (n:Nd):Bool :=
 if n.k=1 then n.l == 0 && n.r == 0
 else if n.k=2 then n.s.size == 0 && n.l == 0 && n.r == 0
 else if jn n.k then n.s.size == 0 && has t n.l && has t n.r
 else false
def check (t:List Nd) (n:Nd):Int :=
 if shaped t n then (if n.k=1 then (if word n.s.data.toList then 0 else 32) else 0) else 31
def put (t:List Nd) (n:Nd):Int × Int × List Nd :=
 if check t n=0 then (if n ∈ t then ((t.idxOf n:Int),0,t) else if 1024<=t.length then (0,30,t) else ((t.length:Int),0,t ++ [n]))
 else (0,check t n,t)
def bot:Nd:=⟨2,⟨#[]⟩,0,0⟩
def fr (t:List Nd):List Nd->Int × List Nd
 | []=>(0,t)
 | n :: r=>if (put t n).2.1=0 then (if (put t n).1=t.length then fr (put t n).2.2 r else (31,[])) else ((put t n).2.1,[])
structure Ok (t:List Nd):Prop where
 len:t.length<=1024
 nd:t.Nodup
 Cj:∀ i (h:i<t.length),check (t.take i) t[i]=0
 gd:∀ n ∈ t,good n
theorem JV:Ok []:=⟨by simp,List.nodup_nil,fun i h=>by simp at h,fun n h=>by cases h⟩
theorem AA (k a b:Int) (hk:i64 k) (ha:i64 a) (hb:i64 b):good ⟨k,⟨#[]⟩,a,b⟩:=⟨hk,Nat.zero_le _,ha,hb⟩
theorem eT {x:Int} (h0:0<=x) (h1:x<=1024):i64 x:=⟨by omega,by omega⟩
theorem Nv:good bot:=AA 2 0 0 (eT (by omega) (by omega)) (eT (by omega) (by omega)) (eT (by omega) (by omega))
theorem dJ {t:List Nd} {i:Int}:has t i=true ↔ 0<=i/\i<t.length:=by simp[has]
theorem qU {t:List Nd} (h:Ok t) {n:Nd} (hn:good n):Ok (put t n).2.2:=by
 unfold put
 split
 ·rename_i hc
  split
  ·exact h
  ·rename_i hm
   split
   ·exact h
   ·rename_i hl
    refine⟨by simp;omega,?_,?_,?_⟩
    ·rw[List.nodup_append]
     exact⟨h.nd,by simp,fun a ha b hb e=>by simp at hb;subst e;subst hb;exact hm ha⟩
    ·intro i hi
     by_cases hlt:i<t.length
     ·have e:(t ++ [n]).take i=t.take i:=by rw[List.take_append_of_le_length (by omega)]
      rw[show(t ++ [n],0).1.take i=t.take i from e]
      have e2:(t ++ [n])[i]'hi=t[i]:=List.getElem_append_left hlt
      show check (t.take i) ((t ++ [n])[i]'hi)=0
      rw[e2]
      exact h.Cj i hlt
     ·simp at hi
      have hi2:i=t.length:=by omega
      subst hi2
      show check ((t ++ [n]).take t.length) ((t ++ [n])[t.length]'(by simp))=0
      rw[List.take_left]
      simpa using hc
    ·intro x hx
     rcases List.mem_append.1 hx with hx | hx
     ·exact h.gd x hx
     ·simp at hx;subst hx;exact hn
 ·exact h
theorem QT (t:List Nd) (n:Nd):t.length<=(put t n).2.2.length/\∃ u,(put t n).2.2=t ++ u:=by
 unfold put
 split
 ·split
  ·exact⟨Nat.le_refl _,[],by simp⟩
  ·split
   ·exact⟨Nat.le_refl _,[],by simp⟩
   ·exact⟨by simp,[n],rfl⟩
 ·exact⟨Nat.le_refl _,[],by simp⟩
theorem Tf {t:List Nd} (h:Ok t) (n:Nd):0<=(put t n).1/\(put t n).1<=1024:=by
 have:=h.len
 unfold put
 split
 ·split
  ·rename_i hm
   have h2:=List.idxOf_lt_length_iff.2 hm
   refine⟨by simp,?_⟩
   show(List.idxOf n t:Int)<=1024
   omega
  ·split
   ·exact⟨by simp,by simp⟩
   ·refine⟨by simp,?_⟩
    show(t.length:Int)<=1024
    omega
 ·exact⟨by simp,by simp⟩
theorem QU {t:List Nd} (h:Ok t) (m:Nat):Ok (t.take m):=by
 refine⟨by have:=h.len;simp;omega,h.nd.sublist (List.take_sublist m t),?_,fun n hn=>h.gd n (List.mem_of_mem_take hn)⟩
 intro i hi
 rw[List.length_take] at hi
 rw[List.take_take,Nat.min_eq_left (by omega),List.getElem_take]
 exact h.Cj i (by omega)
theorem qV {t:List Nd} {n:Nd} (h:check t n=0):shaped t n=true:=by
 unfold check at h
 cases hs:shaped t n
 ·rw[hs] at h;simp at h
 ·rfl
theorem qP {t:List Nd} (h:Ok t) {i:Nat} (hi:i<t.length):t[i].k=1\/t[i].k=2\/jn t[i].k=true:=by
 have:=qV (h.Cj i hi)
 unfold shaped at this
 by_cases h1:t[i].k=1
 ·exact Or.inl h1
 ·by_cases h2:t[i].k=2
  ·exact Or.inr (Or.inl h2)
  ·rw[if_neg h1,if_neg h2] at this
   cases hj:jn t[i].k
   ·rw[hj] at this;simp at this
   ·exact Or.inr (Or.inr rfl)
theorem Nw {t:List Nd} (h:Ok t) {i:Nat} (hi:i<t.length) (hj:jn t[i].k=true):(0<=t[i].l/\t[i].l<i)/\0<=t[i].r/\t[i].r<i:=by
 have:=qV (h.Cj i hi)
 unfold shaped at this
 have h1:t[i].k≠1:=fun e=>by rw[e] at hj;simp[jn] at hj
 have h2:t[i].k≠2:=fun e=>by rw[e] at hj;simp[jn] at hj
 rw[if_neg h1,if_neg h2,if_pos hj] at this
 simp only[Bool.and_eq_true,dJ,List.length_take] at this
 refine⟨⟨this.1.2.1,?_⟩,this.2.1,?_⟩
 ·have:=this.1.2.2;omega
 ·have:=this.2.2;omega
theorem FX {t:List Nd} {n:Nd} (hc:check t n=0) (hm:n ∉ t) (hl:t.length<1024):put t n=((t.length:Int),0,t ++ [n]):=by
 unfold put
 rw[if_pos hc,if_neg hm,if_neg (by omega)]
def upd (m:Nat->Bool) (i:Nat):Nat->Bool:=fun j=>if j=i then true else m j
def mark (t:List Nd):Nat->(Nat->Bool)->Nat->Bool
 | 0,m=>m
 | i+1,m=>mark t i (if m i && jn (t.getD i z).k then upd (upd m (t.getD i z).l.toNat) (t.getD i z).r.toNat else m)
def below (t:List Nd) (i:Nat):List Nat:=(List.range (i+1)).filter (mark t (i+1) (upd (fun _=>false) i))
end Go.Proofs.YtkpbpecikibohaaGreatDoor.Fm
namespace Go.Proofs.YtkpbpecikibohaaGreatDoor.Ms
open Fm (Nd)
def M:Int:=1099511627776
abbrev row (t:List Nd) (i:Nat):Nd:=t.getD i Fm.z
def cnt (z:Int) (f:Int->Int->Int->Int) (t:List Nd):Nat->Nat->Int
 | 0,_=>z
 | n+1,i=>if Fm.jn (row t i).k then f (row t i).k (cnt z f t n (row t i).l.toNat) (cnt z f t n (row t i).r.toNat) else z
def val (z:Int) (f:Int->Int->Int->Int) (t:List Nd) (i:Nat):Int:=cnt z f t (i+1) i
section
variable {t:List Nd} {z z':Int} {f f':Int->Int->Int->Int}
end
section
variable {t:List Nd} (h:Fm.Ok t) {i:Nat} (hi:i<t.length)
include h hi
end
abbrev C:=Nat->Int × Int
def c0 (i:Nat):C:=fun j=>if j=i then (1,0) else (0,0)
end Go.Proofs.YtkpbpecikibohaaGreatDoor.Ms

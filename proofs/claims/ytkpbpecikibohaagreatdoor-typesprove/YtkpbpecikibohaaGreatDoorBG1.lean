import Derived.Lib.TrailingZeros
set_option linter.unusedSimpArgs false
namespace Go.Proofs.YtkpbpecikibohaaGreatDoor.Bt
namespace Bs
def Ok (r:List Nat):Prop:=r.length=16/\∀ x ∈ r,x<18446744073709551616
def wd (r:List Nat) (i:Nat):Nat:=r.getD i 0
def has (r:List Nat) (n:Nat):Bool:=(wd r (n / 64)).testBit (n % 64)
def Dl (r:List Nat) (n:Int):Bool:=decide (0<=n) && decide (n<1024) && has r n.toNat
def zero:List Nat:=List.replicate 16 0
theorem nX {r:List Nat} (h:Ok r) (i:Nat):wd r i<18446744073709551616:=by
 unfold wd
 by_cases hi:i<r.length
 ·rw[List.getD_eq_getElem?_getD,List.getElem?_eq_getElem hi]
  exact h.2 _ (List.getElem_mem hi)
 ·rw[List.getD_eq_getElem?_getD,List.getElem?_eq_none (by omega)]
  simp
theorem Dm {r:List Nat} {i:Nat} (hi:i<r.length):wd r i=r[i]:=by
 unfold wd
 rw[List.getD_eq_getElem?_getD,List.getElem?_eq_getElem hi]
 rfl
theorem Lv {r:List Nat} (h:r.length=16) {i:Nat} (hi:i<16) (v j:Nat):wd (r.set i v) j=if i=j then v else wd r j:=by
 unfold wd
 rw[List.getD_eq_getElem?_getD,List.getElem?_set,List.getD_eq_getElem?_getD]
 by_cases hij:i=j
 ·subst hij
  rw[if_pos rfl,if_pos rfl,if_pos (by omega)]
  rfl
 ·rw[if_neg hij,if_neg hij]
theorem Ok.set {r:List Nat} (h:Ok r) (i:Nat) {v:Nat} (hv:v<18446744073709551616):Ok (r.set i v):=by
 refine⟨by rw[List.length_set];exact h.1,fun x hx => ?_⟩
 rcases List.mem_or_eq_of_mem_set hx with hx | rfl
 ·exact h.2 x hx
 ·exact hv
theorem fH:Ok zero:=⟨by simp[zero],fun x hx=>by
 have:=List.eq_of_mem_replicate hx
 omega⟩
theorem RB (i:Nat):wd zero i=0:=by
 unfold wd zero
 rw[List.getD_eq_getElem?_getD,List.getElem?_replicate]
 split <;> rfl
theorem Cw (n:Nat):has zero n=false:=by simp[has,RB]
theorem Lx {a b:List Nat} (ha:a.length=16) (hb:b.length=16) (h:∀ i,i<16->wd a i=wd b i):a=b:=by
 apply List.ext_getElem (by omega)
 intro i h1 h2
 have:=h i (by omega)
 rwa [Dm h1,Dm h2] at this
theorem zk {x k:Nat} (hx:x<18446744073709551616) (hk:64<=k):x.testBit k=false :=
 Nat.testBit_lt_two_pow (Nat.lt_of_lt_of_le hx (Nat.pow_le_pow_right (n:=2) (by omega) hk))
theorem RD {a b:List Nat} (ha:Ok a) (hb:Ok b) (h:∀ n,n<1024->has a n=has b n):a=b:=by
 refine Lx ha.1 hb.1 fun i hi=>Nat.eq_of_testBit_eq fun k => ?_
 by_cases hk:k<64
 ·have:=h (i * 64+k) (by omega)
  unfold has at this
  rwa [show(i * 64+k) / 64=i by omega,show(i * 64+k) % 64=k by omega] at this
 ·rw[zk (nX ha i) (by omega),zk (nX hb i) (by omega)]
theorem Ue {r:List Nat} (h:Ok r) {n:Nat} (hn:1024<=n):has r n=false:=by
 unfold has wd
 rw[List.getD_eq_getElem?_getD,List.getElem?_eq_none (by rw[h.1];omega)]
 simp
theorem FH {b:Nat} (hb:b<18446744073709551616) (k:Nat):(18446744073709551615 - b).testBit k=(decide (k<64) && !b.testBit k):=by
 have:=@Nat.testBit_two_pow_sub_succ b 64 hb k
 rwa [show 2 ^ 64 - (b+1)=18446744073709551615 - b by omega] at this
theorem tY {k:Nat} (hk:k<64):2 ^ k<18446744073709551616:=Nat.pow_lt_pow_right (a:=2) (by omega) hk
theorem Xg {a b:Nat} (ha:a<18446744073709551616) (hb:b<18446744073709551616):a ||| b<18446744073709551616:=Nat.or_lt_two_pow (n:=64) ha hb
theorem LA (a:Nat) {b:Nat} (hb:b<18446744073709551616):a &&& b<18446744073709551616:=Nat.and_lt_two_pow a (n:=64) hb
def put (r:List Nat) (n:Nat):List Nat:=r.set (n / 64) (wd r (n / 64) ||| 2 ^ (n % 64))
def drop (r:List Nat) (n:Nat):List Nat:=r.set (n / 64) (wd r (n / 64) &&& (18446744073709551615 - 2 ^ (n % 64)))
theorem jy {r:List Nat} (h:Ok r) (n:Nat):Ok (put r n):=h.set _ (Xg (nX h _) (tY (Nat.mod_lt _ (by omega))))
theorem nH {r:List Nat} (h:Ok r) (n:Nat):Ok (drop r n):=h.set _ (LA _ (Nat.lt_of_le_of_lt (Nat.sub_le _ _) (by omega)))
theorem j5 {r:List Nat} (h:Ok r) {n:Nat} (hn:n<1024) (m:Nat):has (put r n) m=(has r m || decide (m=n)):=by
 unfold has put
 rw[Lv h.1 (by omega)]
 by_cases hm:n / 64=m / 64
 ·rw[if_pos hm,Nat.testBit_or,Nat.testBit_two_pow,hm]
  congr 1
  exact decide_eq_decide.2 (by omega)
 ·rw[if_neg hm,show decide (m=n)=false from decide_eq_false (fun e=>hm (by rw[e]))]
  simp
theorem oM {r:List Nat} (h:Ok r) {n:Nat} (hn:n<1024) (m:Nat):has (drop r n) m=(has r m && !decide (m=n)):=by
 unfold has drop
 rw[Lv h.1 (by omega)]
 by_cases hm:n / 64=m / 64
 ·rw[if_pos hm,Nat.testBit_and,FH (tY (Nat.mod_lt _ (by omega))),Nat.testBit_two_pow,hm,decide_eq_true (show m % 64<64 by omega)]
  congr 1
  simp only[Bool.true_and]
  congr 1
  exact decide_eq_decide.2 (by omega)
 ·rw[if_neg hm,show decide (m=n)=false from decide_eq_false (fun e=>hm (by rw[e]))]
  simp
def no (a b:Nat):Nat:=a &&& (18446744073709551615 - b)
def mix (f:Nat->Nat->Nat) (a b:List Nat) (k:Nat):List Nat:=(List.range 16).map fun i=>if i<k then f (wd a i) (wd b i) else wd a i
def minus (a b:List Nat):List Nat:=mix no a b 16
def sub (a b:List Nat):Bool:=decide (minus a b=zero)
def up (p:Nat->Bool):Nat->Nat->Option Nat
 | 0,_=>none
 | f+1,n=>if p n then some n else up p f (n+1)
theorem wR {p:Nat->Bool}:∀ {f n m:Nat},up p f n=some m->n<=m/\m<n+f/\p m=true/\∀ k,n<=k->k<m->p k=false
 | 0,_,_,h=>by simp[up] at h
 | f+1,n,m,h=>by
  unfold up at h
  split at h
  ·rename_i hp
   cases h
   exact⟨by omega,by omega,hp,fun k h1 h2=>by omega⟩
  ·rename_i hp
   obtain⟨h1,h2,h3,h4⟩:=wR h
   refine⟨by omega,by omega,h3,fun k hk1 hk2 => ?_⟩
   by_cases e:k=n
   ·subst e;simpa using hp
   ·exact h4 k (by omega) hk2
theorem zZ {p:Nat->Bool}:∀ {f n:Nat},up p f n=none->∀ k,n<=k->k<n+f->p k=false
 | 0,_,_=>fun k h1 h2=>by omega
 | f+1,n,h=>by
  unfold up at h
  split at h
  ·cases h
  ·rename_i hp
   intro k h1 h2
   by_cases e:k=n
   ·subst e;simpa using hp
   ·exact zZ h k (by omega) (by omega)
theorem IU {p:Nat->Bool} {f n m:Nat} (h1:n<=m) (h2:m<n+f) (h3:p m=true) (h4:∀ k,n<=k->k<m->p k=false):up p f n=some m:=by
 cases h:up p f n with
 | none=>
  have:=zZ h m h1 h2
  rw[h3] at this
  cases this
 | some q=>
  obtain⟨q1,q2,q3,q4⟩:=wR h
  by_cases e:q=m
  ·rw[e]
  ·rcases Nat.lt_or_gt_of_ne e with hl | hl
   ·rw[h4 q q1 hl] at q3;cases q3
   ·rw[q4 m h1 hl] at h3;cases h3
theorem IV {p:Nat->Bool} {f n:Nat} (h4:∀ k,n<=k->k<n+f->p k=false):up p f n=none:=by
 cases h:up p f n with
 | none=>rfl
 | some q=>
  obtain⟨q1,q2,q3,q4⟩:=wR h
  rw[h4 q q1 q2] at q3
  cases q3
def next (r:List Nat) (n:Nat):Option Nat:=up (has r) (1024 - n) n
def cmp (a b:List Nat):Int :=
 match up (fun n=>has a n != has b n) 1024 0 with
 | none=>0
 | some n=>if has a n then -1 else 1
def jS (x:Nat):List Nat:=(List.range 64).filter x.testBit
theorem IW:jS 0=[]:=by simp[jS]
theorem uI {x:Nat} (h0:x≠0) (hx:x<18446744073709551616):Lib.ctz 64 x<64/\x.testBit (Lib.ctz 64 x)=true/\(∀ k,k<Lib.ctz 64 x->x.testBit k=false)/\∀ k,(x &&& (x - 1)).testBit k=(x.testBit k && !decide (k=Lib.ctz 64 x)):=by
 unfold Lib.ctz
 rw[if_neg h0]
 obtain⟨m,hm,hk⟩:=Lib.ctzFrom_spec 64 x (by omega) hx
 generalize Lib.ctzFrom 64 x=c at *
 have hb:∀ k,x.testBit k=(decide (c<=k) && (2 * m+1).testBit (k - c)):=fun k=>by rw[hm,Nat.mul_comm,Nat.testBit_mul_two_pow]
 refine⟨hk,by rw[hb];simp,fun k h=>by rw[hb,decide_eq_false (by omega)];rfl,fun k => ?_⟩
 have hpos:0<2 ^ c:=Nat.two_pow_pos c
 have e1:x - 1=2 ^ c * (2 * m)+(2 ^ c - 1):=by
  rw[hm,Nat.mul_add,Nat.mul_one];omega
 rw[Nat.testBit_and,e1,Nat.testBit_two_pow_mul_add _ (by omega),hb]
 by_cases h1:k<c
 ·rw[decide_eq_false (show ¬ c<=k by omega)];rfl
 ·rw[if_neg h1,decide_eq_true (show c<=k by omega)]
  by_cases h2:k=c
  ·subst h2
   simp
  ·rw[decide_eq_false h2]
   obtain⟨j,rfl⟩:∃ j,k=c+(j+1):=⟨k - c - 1,by omega⟩
   rw[show c+(j+1) - c=j+1 by omega,Nat.testBit_succ,Nat.testBit_succ,show(2 * m+1) / 2=m by omega,show 2 * m / 2=m by omega]
   simp
theorem vO {p q:Nat->Bool} {c:Nat} (hc:p c=true) (hlow:∀ k,k<c->p k=false) (hq:∀ k,q k=(p k && !decide (k=c))):∀ (N:Nat),c<N->(List.range N).filter p=c :: (List.range N).filter q
 | 0,h=>by omega
 | N+1,h=>by
  rw[List.range_succ,List.filter_append,List.filter_append]
  by_cases e:c=N
  ·subst e
   have h1:(List.range c).filter p=[]:=List.filter_eq_nil_iff.2 fun k hk=>by rw[hlow k (List.mem_range.1 hk)];simp
   have h2:(List.range c).filter q=[]:=List.filter_eq_nil_iff.2 fun k hk=>by rw[hq,hlow k (List.mem_range.1 hk)];simp
   rw[h1,h2]
   simp[hc,hq]
  ·rw[vO hc hlow hq N (by omega)]
   have:q N=p N:=by rw[hq,decide_eq_false (fun e'=>e e'.symm)];simp
   rw[List.cons_append]
   congr 2
   simp only[List.filter_cons,this,List.filter_nil]
theorem IX {x:Nat} (h0:x≠0) (hx:x<18446744073709551616):jS x=Lib.ctz 64 x :: jS (x &&& (x - 1)):=by
 obtain⟨h1,h2,h3,h4⟩:=uI h0 hx
 exact vO h2 h3 h4 64 h1
def nums (r:List Nat):List Nat:=(List.range 1024).filter (has r)
def rest (r:List Nat) (i:Nat):List Nat:=((List.range 16).drop i).flatMap fun j=>(jS (wd r j)).map (j * 64+·)
theorem IY (k:Nat):List.range (k * 64)=(List.range k).flatMap fun j=>(List.range 64).map (j * 64+·):=by
 induction k with
 | zero=>rfl
 | succ k ih=>
  rw[List.range_succ (n:=k),List.flatMap_append,<- ih,show(k+1) * 64=k * 64+64 by omega,List.range_add]
  simp
theorem xD {α β:Type} (p:β->Bool) (f:α->List β):∀ l:List α,(l.flatMap f).filter p=l.flatMap fun a=>(f a).filter p
 | []=>rfl
 | a :: l=>by rw[List.flatMap_cons,List.filter_append,xD p f l,List.flatMap_cons]
theorem zl {α β:Type} {f g:α->List β}:∀ {l:List α},(∀ a ∈ l,f a=g a)->l.flatMap f=l.flatMap g
 | [],_=>rfl
 | a :: l,h=>by rw[List.flatMap_cons,List.flatMap_cons,h a List.mem_cons_self,zl fun b hb=>h b (List.mem_cons_of_mem _ hb)]
theorem LB (r:List Nat):nums r=rest r 0:=by
 unfold nums rest
 rw[show(1024:Nat)=16 * 64 by rfl,IY,List.drop_zero,xD]
 refine zl fun j _ => ?_
 rw[jS,List.filter_map]
 congr 1
 refine List.filter_congr fun k hk => ?_
 have:=List.mem_range.1 hk
 show has r (j * 64+k)=_
 rw[has,show(j * 64+k) / 64=j by omega,show(j * 64+k) % 64=k by omega]
theorem rest_step (r:List Nat) {i:Nat} (hi:i<16):rest r i=(jS (wd r i)).map (i * 64+·) ++ rest r (i+1):=by
 unfold rest
 rw[List.drop_eq_getElem_cons (by simpa using hi),List.flatMap_cons]
 simp
theorem rest_end (r:List Nat):rest r 16=[]:=rfl
theorem oN {r:List Nat} {n:Nat}:n ∈ nums r ↔ n<1024/\has r n=true:=by simp[nums]
end Bs
namespace Bs
theorem RF (x:Nat) (s k:Nat):(x / 2 ^ s * 2 ^ s).testBit k=(decide (s<=k) && x.testBit k):=by
 rw[Nat.testBit_mul_two_pow]
 by_cases h:s<=k
 ·rw[decide_eq_true h,Bool.true_and,Bool.true_and,Nat.testBit_div_two_pow]
  congr 1
  omega
 ·rw[decide_eq_false h];rfl
def At (r:List Nat) (n i w:Nat):Prop:=w<18446744073709551616/\∀ k,k<64->w.testBit k=(decide (n<=i * 64+k) && (wd r i).testBit k)
theorem Ob {r:List Nat} (h:Ok r) (n:Nat):At r n (n / 64) (wd r (n / 64) / 2 ^ (n % 64) * 2 ^ (n % 64)):=by
 refine⟨Nat.lt_of_le_of_lt (Nat.div_mul_le_self _ _) (nX h _),fun k hk => ?_⟩
 rw[RF]
 congr 1
 exact decide_eq_decide.2 (by omega)
theorem Dn {r:List Nat} (h:Ok r) {n i:Nat} (hi:n / 64<i):At r n i (wd r i) :=
 ⟨nX h _,fun k _=>by rw[decide_eq_true (by omega),Bool.true_and]⟩
theorem qI {r:List Nat} {n i w:Nat} (hi:i<16) (hlow:∀ k,n<=k->k<i * 64->has r k=false) (hw:At r n i w) (h0:w≠0):next r n=some (i * 64+Lib.ctz 64 w):=by
 obtain⟨h1,h2,h3,_⟩:=uI h0 hw.1
 generalize Lib.ctz 64 w=c at *
 have h2':=hw.2 c h1
 rw[h2,eq_comm,Bool.and_eq_true,decide_eq_true_iff] at h2'
 have hh:∀ k,k<64->has r (i * 64+k)=(wd r i).testBit k:=fun k hk=>by rw[has,show(i * 64+k) / 64=i by omega,show(i * 64+k) % 64=k by omega]
 refine IU h2'.1 (by omega) (by rw[hh c h1];exact h2'.2) fun k hk1 hk2 => ?_
 by_cases hk:k<i * 64
 ·exact hlow k hk1 hk
 ·obtain⟨j,rfl⟩:∃ j,k=i * 64+j:=⟨k - i * 64,by omega⟩
  have:=hw.2 j (by omega)
  rw[h3 j (by omega),decide_eq_true hk1,Bool.true_and] at this
  rw[hh j (by omega)]
  exact this.symm
theorem uJ {r:List Nat} {n i:Nat} (hlow:∀ k,n<=k->k<i * 64->has r k=false) (hw:At r n i 0):∀ k,n<=k->k<(i+1) * 64->has r k=false:=by
 intro k hk1 hk2
 by_cases hk:k<i * 64
 ·exact hlow k hk1 hk
 ·obtain⟨j,rfl⟩:∃ j,k=i * 64+j:=⟨k - i * 64,by omega⟩
  have:=hw.2 j (by omega)
  rw[Nat.zero_testBit,decide_eq_true hk1,Bool.true_and] at this
  rw[has,show(i * 64+j) / 64=i by omega,show(i * 64+j) % 64=j by omega]
  exact this.symm
theorem GI {r:List Nat} {n:Nat} (hlow:∀ k,n<=k->k<16 * 64->has r k=false):next r n=none :=
 IV fun k h1 h2=>hlow k h1 (by omega)
theorem next_lt {r:List Nat} {n m:Nat} (h:next r n=some m):n<=m/\m<1024/\has r m=true/\∀ k,n<=k->k<m->has r k=false:=by
 obtain⟨h1,h2,h3,h4⟩:=wR h
 exact⟨h1,by omega,h3,h4⟩
theorem LC {r:List Nat} (hr:Ok r) {n:Nat} (h:next r n=none):∀ k,n<=k->has r k=false:=fun k hk=>by
 by_cases h2:k<1024
 ·exact zZ h k hk (by omega)
 ·exact Ue hr (by omega)
end Bs
namespace Bs
def m1:Nat->Nat
 | 0=>0
 | k+1=>256 * m1 k+85
def g1 (k x:Nat):Nat:=(x / 2 &&& m1 k)+(x &&& m1 k)
def h1 (b:Nat):Nat:=(b / 2 &&& 85)+(b &&& 85)
def h2 (b:Nat):Nat:=(b / 4 &&& 51)+(b &&& 51)
def h4 (b:Nat):Nat:=(b / 16+b) &&& 15
def Oc (b:Nat):Nat:=h4 (h2 (h1 b))
def bytes:Nat->Nat->Nat
 | 0,_=>0
 | k+1,x=>256 * bytes k (x / 256)+Oc (x % 256)
end Bs
end Go.Proofs.YtkpbpecikibohaaGreatDoor.Bt

/-
  Plain mathematics of tables of formulas: names, rows, what Put, Not, From, Cut and Below answer. No condition.
-/
namespace Go.Proofs.YtkmmlimekachbaaGreatDoor.Fm
structure Nd where
 k:Int
 s:ByteArray
 l:Int
 r:Int
deriving DecidableEq
def z:Nd:=⟨0,⟨#[]⟩,0,0⟩
def i64 (x:Int):Prop := -9223372036854775808≤x∧x≤9223372036854775807
def good (n:Nd):Prop:=i64 n.k∧n.s.size≤140737488351232∧i64 n.l∧i64 n.r
def isL (c:UInt8):Bool:=(97≤c && c≤122) || (65≤c && c≤90)
def inN (c:UInt8):Bool:=isL c || (48≤c && c≤57) || c == 95 || c == 39
def takens:List (List UInt8):=[[97,98,111,114,116],[99,97,115,101],[102,97,108,115,101],[102,115,116],[102,117,110],[105,110],[105,110,108],[105,110,114],[108,101,116],[111,102],[115,110,100],[116,114,117,101]]
def word (l:List UInt8):Bool:=l.length != 0 && decide (l.length≤31) && isL (l.headD 0) && l.tail.all inN && !takens.contains l
def has (t:List Nd) (i:Int):Bool:=decide (0≤i) && decide (i<t.length)
def jn (k:Int):Bool:=k == 3 || k == 4 || k == 5
def shaped (t:List Nd) (n:Nd):Bool :=
 if n.k=1 then n.l == 0 && n.r == 0
 else if n.k=2 then n.s.size == 0 && n.l == 0 && n.r == 0
 else if jn n.k then n.s.size == 0 && has t n.l && has t n.r
 else false
def check (t:List Nd) (n:Nd):Int :=
 if shaped t n then (if n.k=1 then (if word n.s.data.toList then 0 else 32) else 0) else 31
def put (t:List Nd) (n:Nd):Int × Int × List Nd :=
 if check t n=0 then (if n ∈ t then ((t.idxOf n:Int),0,t) else if 1024≤t.length then (0,30,t) else ((t.length:Int),0,t ++ [n]))
 else (0,check t n,t)
def bot:Nd:=⟨2,⟨#[]⟩,0,0⟩
def notp (t:List Nd) (a:Int):Int × Int × List Nd :=
 if has t a then (if (put t bot).2.1=0 then put (put t bot).2.2 ⟨5,⟨#[]⟩,a,(put t bot).1⟩ else (0,(put t bot).2.1,(put t bot).2.2)) else (0,31,t)
def fr (t:List Nd):List Nd→Int × List Nd
 | []=>(0,t)
 | n :: r=>if (put t n).2.1=0 then (if (put t n).1=t.length then fr (put t n).2.2 r else (31,[])) else ((put t n).2.1,[])
structure Ok (t:List Nd):Prop where
 len:t.length≤1024
 nd:t.Nodup
 chk:∀ i (h:i<t.length),check (t.take i) t[i]=0
 gd:∀ n ∈ t,good n
theorem ok_nil:Ok []:=⟨by simp,List.nodup_nil,fun i h=>by simp at h,fun n h=>by cases h⟩
theorem good_join (k a b:Int) (hk:i64 k) (ha:i64 a) (hb:i64 b):good ⟨k,⟨#[]⟩,a,b⟩:=⟨hk,Nat.zero_le _,ha,hb⟩
theorem i64_small {x:Int} (h0:0≤x) (h1:x≤1024):i64 x:=⟨by omega,by omega⟩
theorem good_bot:good bot:=good_join 2 0 0 (i64_small (by omega) (by omega)) (i64_small (by omega) (by omega)) (i64_small (by omega) (by omega))
theorem has_iff {t:List Nd} {i:Int}:has t i=true ↔ 0≤i∧i<t.length:=by simp [has]
theorem ok_put {t:List Nd} (h:Ok t) {n:Nd} (hn:good n):Ok (put t n).2.2:=by
 unfold put
 split
 ·rename_i hc
  split
  ·exact h
  ·rename_i hm
   split
   ·exact h
   ·rename_i hl
    refine ⟨by simp;omega,?_,?_,?_⟩
    ·rw [List.nodup_append]
     exact ⟨h.nd,by simp,fun a ha b hb e=>by simp at hb;subst e;subst hb;exact hm ha⟩
    ·intro i hi
     by_cases hlt:i<t.length
     ·have e:(t ++ [n]).take i=t.take i:=by rw [List.take_append_of_le_length (by omega)]
      rw [show (t ++ [n],0).1.take i=t.take i from e]
      have e2:(t ++ [n])[i]'hi=t[i]:=List.getElem_append_left hlt
      show check (t.take i) ((t ++ [n])[i]'hi)=0
      rw [e2]
      exact h.chk i hlt
     ·simp at hi
      have hi2:i=t.length:=by omega
      subst hi2
      show check ((t ++ [n]).take t.length) ((t ++ [n])[t.length]'(by simp))=0
      rw [List.take_left]
      simpa using hc
    ·intro x hx
     rcases List.mem_append.1 hx with hx | hx
     ·exact h.gd x hx
     ·simp at hx;subst hx;exact hn
 ·exact h
theorem put_err {t:List Nd} {n:Nd} (h:(put t n).2.1≠0):(put t n).2.2=t∧(put t n).1=0:=by
 unfold put at *
 split
 ·rename_i hc
  rw [if_pos hc] at h
  split
  ·rename_i hm;rw [if_pos hm] at h;exact absurd rfl h
  ·rename_i hm
   rw [if_neg hm] at h
   split
   ·exact ⟨rfl,rfl⟩
   ·rename_i hl;rw [if_neg hl] at h;exact absurd rfl h
 ·exact ⟨rfl,rfl⟩
theorem put_len (t:List Nd) (n:Nd):t.length≤(put t n).2.2.length∧∃ u,(put t n).2.2=t ++ u:=by
 unfold put
 split
 ·split
  ·exact ⟨Nat.le_refl _,[],by simp⟩
  ·split
   ·exact ⟨Nat.le_refl _,[],by simp⟩
   ·exact ⟨by simp,[n],rfl⟩
 ·exact ⟨Nat.le_refl _,[],by simp⟩
theorem put_id {t:List Nd} (h:Ok t) (n:Nd):0≤(put t n).1∧(put t n).1≤1024:=by
 have:=h.len
 unfold put
 split
 ·split
  ·rename_i hm
   have h2:=List.idxOf_lt_length_iff.2 hm
   refine ⟨by simp,?_⟩
   show (List.idxOf n t:Int)≤1024
   omega
  ·split
   ·exact ⟨by simp,by simp⟩
   ·refine ⟨by simp,?_⟩
    show (t.length:Int)≤1024
    omega
 ·exact ⟨by simp,by simp⟩
theorem check_vals (t:List Nd) (n:Nd):check t n=0∨check t n=31∨check t n=32:=by
 unfold check
 repeat' split
 all_goals simp
theorem ok_take {t:List Nd} (h:Ok t) (m:Nat):Ok (t.take m):=by
 refine ⟨by have:=h.len;simp;omega,h.nd.sublist (List.take_sublist m t),?_,fun n hn=>h.gd n (List.mem_of_mem_take hn)⟩
 intro i hi
 rw [List.length_take] at hi
 rw [List.take_take,Nat.min_eq_left (by omega),List.getElem_take]
 exact h.chk i (by omega)
theorem shaped_mono {t u:List Nd} {n:Nd}:shaped t n=true→t.length≤u.length→shaped u n=true:=by
 intro h hl
 unfold shaped at *
 split
 ·rename_i h1;rw [if_pos h1] at h;exact h
 ·rename_i h1
  rw [if_neg h1] at h
  split
  ·rename_i h2;rw [if_pos h2] at h;exact h
  ·rename_i h2
   rw [if_neg h2] at h
   split
   ·rename_i h3
    rw [if_pos h3] at h
    simp only [Bool.and_eq_true,has_iff] at h ⊢
    refine ⟨⟨h.1.1,h.1.2.1,by omega⟩,h.2.1,by omega⟩
   ·rename_i h3;rw [if_neg h3] at h;exact h
theorem check_shaped {t:List Nd} {n:Nd} (h:check t n=0):shaped t n=true:=by
 unfold check at h
 cases hs:shaped t n
 ·rw [hs] at h;simp at h
 ·rfl
theorem ok_kind {t:List Nd} (h:Ok t) {i:Nat} (hi:i<t.length):t[i].k=1∨t[i].k=2∨jn t[i].k=true:=by
 have:=check_shaped (h.chk i hi)
 unfold shaped at this
 by_cases h1:t[i].k=1
 ·exact Or.inl h1
 ·by_cases h2:t[i].k=2
  ·exact Or.inr (Or.inl h2)
  ·rw [if_neg h1,if_neg h2] at this
   cases hj:jn t[i].k
   ·rw [hj] at this;simp at this
   ·exact Or.inr (Or.inr rfl)
theorem ok_parts {t:List Nd} (h:Ok t) {i:Nat} (hi:i<t.length) (hj:jn t[i].k=true):(0≤t[i].l∧t[i].l<i)∧0≤t[i].r∧t[i].r<i:=by
 have:=check_shaped (h.chk i hi)
 unfold shaped at this
 have h1:t[i].k≠1:=fun e=>by rw [e] at hj;simp [jn] at hj
 have h2:t[i].k≠2:=fun e=>by rw [e] at hj;simp [jn] at hj
 rw [if_neg h1,if_neg h2,if_pos hj] at this
 simp only [Bool.and_eq_true,has_iff,List.length_take] at this
 refine ⟨⟨this.1.2.1,?_⟩,this.2.1,?_⟩
 ·have:=this.1.2.2;omega
 ·have:=this.2.2;omega
theorem put_new {t:List Nd} {n:Nd} (hc:check t n=0) (hm:n ∉ t) (hl:t.length<1024):put t n=((t.length:Int),0,t ++ [n]):=by
 unfold put
 rw [if_pos hc,if_neg hm,if_neg (by omega)]
def upd (m:Nat→Bool) (i:Nat):Nat→Bool:=fun j=>if j=i then true else m j
def mark (t:List Nd):Nat→(Nat→Bool)→Nat→Bool
 | 0,m=>m
 | i+1,m=>mark t i (if m i && jn (t.getD i z).k then upd (upd m (t.getD i z).l.toNat) (t.getD i z).r.toNat else m)
def below (t:List Nd) (i:Nat):List Nat:=(List.range (i+1)).filter (mark t (i+1) (upd (fun _=>false) i))
end Go.Proofs.YtkmmlimekachbaaGreatDoor.Fm
/-
  Plain mathematics of reading formulas: tokens, what is counted, what is read, what is put. No condition.
-/
namespace Go.Proofs.YtkmmlimekachbaaGreatDoor.Sx
open Fm (Nd)
structure Tn where
 k:Int
 s:ByteArray
 n:Int
 l:Int
 c:Int
 o:Int
deriving DecidableEq
def tz:Tn:=⟨0,⟨#[]⟩,0,0,0,0⟩
abbrev sNot:List UInt8:=[126]
abbrev sAnd:List UInt8:=[38]
abbrev sOr:List UInt8:=[124]
abbrev sImp:List UInt8:=[45,62]
abbrev sIff:List UInt8:=[60,45,62]
abbrev sOpen:List UInt8:=[40]
abbrev sShut:List UInt8:=[41]
abbrev wFalse:List UInt8:=[102,97,108,115,101]
abbrev wTrue:List UInt8:=[116,114,117,101]
def sgn (t:Tn) (x:List UInt8):Bool:=t.k == 3 && t.s.data.toList == x
def counts (t:Tn):Bool:=t.k == 1 || (t.k == 3 && (t.s.data.toList == sNot || t.s.data.toList == sAnd || t.s.data.toList == sOr || t.s.data.toList == sImp || t.s.data.toList == sIff))
inductive T where
 | atom (s:ByteArray)
 | bot
 | top
 | neg (a:T)
 | bin (k:Int) (a b:T)
 | iff (a b:T)
inductive Lv where
 | formula | implied | joined | both | single
 | ors (a:T) | ands (a:T)
inductive Out where
 | ok (a:T) (i n:Nat)
 | bad (e:Int) (t:Tn)
def tk (ts:List Tn) (i:Nat):Tn:=ts.getD i tz
def up (ts:List Tn) (i n:Nat):Nat:=if counts (tk ts i) then n+1 else n
def refuse (ts:List Tn) (i n:Nat):Out:=if 512<up ts i n then .bad 40 (tk ts i) else .bad 41 (tk ts i)
def stp (ts:List Tn) (i n:Nat) (k:Nat→Option Out):Option Out:=if 512<up ts i n then some (.bad 40 (tk ts i)) else k (up ts i n)
def bnd (o:Option Out) (k:T→Nat→Nat→Option Out):Option Out :=
 match o with
 | none=>none
 | some (.bad e t)=>some (.bad e t)
 | some (.ok a i n)=>k a i n
def named (s:ByteArray):Option T:=if s.data.toList=wFalse then some .bot else if s.data.toList=wTrue then some .top else if Fm.word s.data.toList then some (.atom s) else none
def rd (ts:List Tn):Nat→Lv→Nat→Nat→Nat→Option Out
 | 0,_,_,_,_=>none
 | f+1,.formula,i,n,d=>bnd (rd ts f .implied i n d) fun a i n=>if sgn (tk ts i) sIff then stp ts i n fun n=>bnd (rd ts f .formula (i+1) n d) fun b i n=>some (.ok (.iff a b) i n) else some (.ok a i n)
 | f+1,.implied,i,n,d=>bnd (rd ts f .joined i n d) fun a i n=>if sgn (tk ts i) sImp then stp ts i n fun n=>bnd (rd ts f .implied (i+1) n d) fun b i n=>some (.ok (.bin 5 a b) i n) else some (.ok a i n)
 | f+1,.joined,i,n,d=>bnd (rd ts f .both i n d) fun a i n=>rd ts f (.ors a) i n d
 | f+1,.ors a,i,n,d=>if sgn (tk ts i) sOr then stp ts i n fun n=>bnd (rd ts f .both (i+1) n d) fun b i n=>rd ts f (.ors (.bin 4 a b)) i n d else some (.ok a i n)
 | f+1,.both,i,n,d=>bnd (rd ts f .single i n d) fun a i n=>rd ts f (.ands a) i n d
 | f+1,.ands a,i,n,d=>if sgn (tk ts i) sAnd then stp ts i n fun n=>bnd (rd ts f .single (i+1) n d) fun b i n=>rd ts f (.ands (.bin 3 a b)) i n d else some (.ok a i n)
 | f+1,.single,i,n,d =>
  if sgn (tk ts i) sNot then stp ts i n fun n=>bnd (rd ts f .single (i+1) n d) fun a i n=>some (.ok (.neg a) i n)
  else if sgn (tk ts i) sOpen then
   (if d=1024 then some (refuse ts i n) else stp ts i n fun n=>bnd (rd ts f .formula (i+1) n (d+1)) fun a i n=>if sgn (tk ts i) sShut then stp ts i n fun n=>some (.ok a (i+1) n) else some (refuse ts i n))
  else if (tk ts i).k=1 then
   (match named (tk ts i).s with
   | none=>some (refuse ts i n)
   | some a=>stp ts i n fun n=>some (.ok a (i+1) n))
  else some (refuse ts i n)
def cost:Lv→Nat
 | .formula=>5
 | .implied=>4
 | .joined=>3
 | .both=>2
 | .single=>1
 | .ors _=>3
 | .ands _=>2
def adv:Lv→Nat
 | .ors _ | .ands _=>0
 | _=>1
theorem tk_lt {ts:List Tn} {i:Nat} (h:(tk ts i).k≠0):i<ts.length:=by
 unfold tk at h
 rcases Nat.lt_or_ge i ts.length with h1 | h1
 ·exact h1
 ·rw [List.getD_eq_getElem?_getD,List.getElem?_eq_none h1] at h
  exact absurd rfl h
theorem sgn_lt {ts:List Tn} {i:Nat} {x:List UInt8} (h:sgn (tk ts i) x=true):i<ts.length:=by
 refine tk_lt ?_
 simp only [sgn,Bool.and_eq_true,beq_iff_eq] at h
 omega
def Fine (ts:List Tn) (lv:Lv) (i n:Nat) (o:Out):Prop:=∀ a i' n',o=.ok a i' n'→i+adv lv≤i'∧i'≤ts.length∧(n≤512→n'≤512)
theorem fine_bad (ts:List Tn) (lv:Lv) (i n:Nat) (e:Int) (t:Tn):Fine ts lv i n (.bad e t):=fun _ _ _ h=>by cases h
theorem fine_refuse (ts:List Tn) (lv:Lv) (i n:Nat) (i' n':Nat):Fine ts lv i n (refuse ts i' n'):=by
 unfold refuse
 split <;> exact fine_bad _ _ _ _ _ _
theorem stp_some {ts:List Tn} {i n:Nat} {k:Nat→Option Out} {Q:Out→Prop} (hb:∀ e t,Q (.bad e t)) (h:up ts i n≤512→∃ o,k (up ts i n)=some o∧Q o):∃ o,stp ts i n k=some o∧Q o:=by
 unfold stp
 split
 ·exact ⟨_,rfl,hb _ _⟩
 ·exact h (by omega)
theorem bnd_some {o:Option Out} {k:T→Nat→Nat→Option Out} {Q R:Out→Prop} (hb:∀ e t,Q (.bad e t)) (h:∃ x,o=some x∧R x) (hk:∀ a i n,R (.ok a i n)→∃ x,k a i n=some x∧Q x):∃ x,bnd o k=some x∧Q x:=by
 obtain ⟨x,rfl,hR⟩:=h
 cases x with
 | ok a i n=>exact hk a i n hR
 | bad e t=>exact ⟨_,rfl,hb e t⟩
theorem rd_total (ts:List Tn):∀ (f:Nat) (lv:Lv) (i n d:Nat),i≤ts.length→8 * (ts.length - i)+cost lv≤f→∃ o,rd ts f lv i n d=some o∧Fine ts lv i n o
 | 0,lv,i,n,d,hi,hf=>by cases lv <;> simp [cost] at hf
 | f+1,lv,i,n,d,hi,hf=>by
  have ih:=rd_total ts f
  have fb:=fine_bad ts lv i n
  cases lv with
  | formula =>
   simp only [cost] at hf
   refine bnd_some fb (ih .implied i n d hi (by simp only [cost];omega)) fun a i1 n1 h1 => ?_
   have h1:=h1 _ _ _ rfl
   simp only [adv] at h1
   split
   ·rename_i hs
    have hl:=sgn_lt hs
    refine stp_some fb fun hu=>bnd_some fb (ih .formula (i1+1) _ d (by omega) (by simp only [cost];omega)) fun b i2 n2 h2 => ?_
    have h2:=h2 _ _ _ rfl
    simp only [adv] at h2
    refine ⟨_,rfl,fun a' i' n' e => ?_⟩
    cases e
    simp only [adv]
    exact ⟨by omega,by omega,fun _=>h2.2.2 hu⟩
   ·refine ⟨_,rfl,fun a' i' n' e => ?_⟩
    cases e
    simp only [adv]
    exact ⟨by omega,by omega,h1.2.2⟩
  | implied =>
   simp only [cost] at hf
   refine bnd_some fb (ih .joined i n d hi (by simp only [cost];omega)) fun a i1 n1 h1 => ?_
   have h1:=h1 _ _ _ rfl
   simp only [adv] at h1
   split
   ·rename_i hs
    have hl:=sgn_lt hs
    refine stp_some fb fun hu=>bnd_some fb (ih .implied (i1+1) _ d (by omega) (by simp only [cost];omega)) fun b i2 n2 h2 => ?_
    have h2:=h2 _ _ _ rfl
    simp only [adv] at h2
    refine ⟨_,rfl,fun a' i' n' e => ?_⟩
    cases e
    simp only [adv]
    exact ⟨by omega,by omega,fun _=>h2.2.2 hu⟩
   ·refine ⟨_,rfl,fun a' i' n' e => ?_⟩
    cases e
    simp only [adv]
    exact ⟨by omega,by omega,h1.2.2⟩
  | joined =>
   simp only [cost] at hf
   refine bnd_some fb (ih .both i n d hi (by simp only [cost];omega)) fun a i1 n1 h1 => ?_
   have h1:=h1 _ _ _ rfl
   simp only [adv] at h1
   obtain ⟨o,ho,h2⟩:=ih (.ors a) i1 n1 d (by omega) (by simp only [cost];omega)
   refine ⟨o,ho,fun a' i' n' e => ?_⟩
   have h2:=h2 _ _ _ e
   simp only [adv] at h2 ⊢
   exact ⟨by omega,by omega,fun h=>h2.2.2 (h1.2.2 h)⟩
  | both =>
   simp only [cost] at hf
   refine bnd_some fb (ih .single i n d hi (by simp only [cost];omega)) fun a i1 n1 h1 => ?_
   have h1:=h1 _ _ _ rfl
   simp only [adv] at h1
   obtain ⟨o,ho,h2⟩:=ih (.ands a) i1 n1 d (by omega) (by simp only [cost];omega)
   refine ⟨o,ho,fun a' i' n' e => ?_⟩
   have h2:=h2 _ _ _ e
   simp only [adv] at h2 ⊢
   exact ⟨by omega,by omega,fun h=>h2.2.2 (h1.2.2 h)⟩
  | ors a =>
   simp only [cost] at hf
   unfold rd
   split
   ·rename_i hs
    have hl:=sgn_lt hs
    refine stp_some fb fun hu=>bnd_some fb (ih .both (i+1) _ d (by omega) (by simp only [cost];omega)) fun b i2 n2 h2 => ?_
    have h2:=h2 _ _ _ rfl
    simp only [adv] at h2
    obtain ⟨o,ho,h3⟩:=ih (.ors (.bin 4 a b)) i2 n2 d (by omega) (by simp only [cost];omega)
    refine ⟨o,ho,fun a' i' n' e => ?_⟩
    have h3:=h3 _ _ _ e
    simp only [adv] at h3 ⊢
    exact ⟨by omega,by omega,fun _=>h3.2.2 (h2.2.2 hu)⟩
   ·refine ⟨_,rfl,fun a' i' n' e => ?_⟩
    cases e
    simp only [adv]
    exact ⟨by omega,by omega,fun h=>h⟩
  | ands a =>
   simp only [cost] at hf
   unfold rd
   split
   ·rename_i hs
    have hl:=sgn_lt hs
    refine stp_some fb fun hu=>bnd_some fb (ih .single (i+1) _ d (by omega) (by simp only [cost];omega)) fun b i2 n2 h2 => ?_
    have h2:=h2 _ _ _ rfl
    simp only [adv] at h2
    obtain ⟨o,ho,h3⟩:=ih (.ands (.bin 3 a b)) i2 n2 d (by omega) (by simp only [cost];omega)
    refine ⟨o,ho,fun a' i' n' e => ?_⟩
    have h3:=h3 _ _ _ e
    simp only [adv] at h3 ⊢
    exact ⟨by omega,by omega,fun _=>h3.2.2 (h2.2.2 hu)⟩
   ·refine ⟨_,rfl,fun a' i' n' e => ?_⟩
    cases e
    simp only [adv]
    exact ⟨by omega,by omega,fun h=>h⟩
  | single =>
   simp only [cost] at hf
   unfold rd
   split
   ·rename_i hs
    have hl:=sgn_lt hs
    refine stp_some fb fun hu=>bnd_some fb (ih .single (i+1) _ d (by omega) (by simp only [cost];omega)) fun b i2 n2 h2 => ?_
    have h2:=h2 _ _ _ rfl
    simp only [adv] at h2
    refine ⟨_,rfl,fun a' i' n' e => ?_⟩
    cases e
    simp only [adv]
    exact ⟨by omega,by omega,fun _=>h2.2.2 hu⟩
   ·split
    ·rename_i hs
     have hl:=sgn_lt hs
     split
     ·exact ⟨_,rfl,fine_refuse _ _ _ _ _ _⟩
     ·refine stp_some fb fun hu=>bnd_some fb (ih .formula (i+1) _ (d+1) (by omega) (by simp only [cost];omega)) fun b i2 n2 h2 => ?_
      have h2:=h2 _ _ _ rfl
      simp only [adv] at h2
      split
      ·rename_i hs2
       have hl2:=sgn_lt hs2
       refine stp_some fb fun hu2=>⟨_,rfl,fun a' i' n' e => ?_⟩
       cases e
       simp only [adv]
       exact ⟨by omega,by omega,fun _=>hu2⟩
      ·exact ⟨_,rfl,fine_refuse _ _ _ _ _ _⟩
    ·split
     ·rename_i hk
      have hl:=tk_lt (ts:=ts) (i:=i) (by omega)
      split
      ·exact ⟨_,rfl,fine_refuse _ _ _ _ _ _⟩
      ·refine stp_some fb fun hu=>⟨_,rfl,fun a' i' n' e => ?_⟩
       cases e
       simp only [adv]
       exact ⟨by omega,by omega,fun _=>hu⟩
     ·exact ⟨_,rfl,fine_refuse _ _ _ _ _ _⟩
def mutu (t:List Nd) (x y:Int):Int × Int × List Nd :=
 if (Fm.put t ⟨5,⟨#[]⟩,x,y⟩).2.1=0 then
  (if (Fm.put (Fm.put t ⟨5,⟨#[]⟩,x,y⟩).2.2 ⟨5,⟨#[]⟩,y,x⟩).2.1=0 then
   Fm.put (Fm.put (Fm.put t ⟨5,⟨#[]⟩,x,y⟩).2.2 ⟨5,⟨#[]⟩,y,x⟩).2.2 ⟨3,⟨#[]⟩,(Fm.put t ⟨5,⟨#[]⟩,x,y⟩).1,(Fm.put (Fm.put t ⟨5,⟨#[]⟩,x,y⟩).2.2 ⟨5,⟨#[]⟩,y,x⟩).1⟩
  else Fm.put (Fm.put t ⟨5,⟨#[]⟩,x,y⟩).2.2 ⟨5,⟨#[]⟩,y,x⟩)
 else Fm.put t ⟨5,⟨#[]⟩,x,y⟩
def thn (r:Int × Int × List Nd) (k:Int→List Nd→Int × Int × List Nd):Int × Int × List Nd:=if r.2.1=0 then k r.1 r.2.2 else r
def pt:T→List Nd→Int × Int × List Nd
 | .atom s,t=>Fm.put t ⟨1,s,0,0⟩
 | .bot,t=>Fm.put t Fm.bot
 | .top,t=>thn (Fm.put t Fm.bot) fun x t=>Fm.notp t x
 | .neg a,t=>thn (pt a t) fun x t=>Fm.notp t x
 | .bin k a b,t=>thn (pt a t) fun x t=>thn (pt b t) fun y t=>Fm.put t ⟨k,⟨#[]⟩,x,y⟩
 | .iff a b,t=>thn (pt a t) fun x t=>thn (pt b t) fun y t=>mutu t x y
def Wf:T→Prop
 | .atom s=>Fm.word s.data.toList=true
 | .bot | .top=>True
 | .neg a=>Wf a
 | .bin k a b=>(k=3∨k=4∨k=5)∧Wf a∧Wf b
 | .iff a b=>Wf a∧Wf b
end Go.Proofs.YtkmmlimekachbaaGreatDoor.Sx
/-
  Plain mathematics of putting what was read: rows only grow, the only error is 30. No condition.
-/
namespace Go.Proofs.YtkmmlimekachbaaGreatDoor.Sx
open Fm (Nd)
structure Res (t:List Nd) (r:Int × Int × List Nd):Prop where
 ok:Fm.Ok r.2.2
 pre:∃ u,r.2.2=t ++ u
 out:(r.2.1=0∧Fm.has r.2.2 r.1=true)∨(r.2.1=30∧r.1=0)
theorem Res.i64 {t:List Nd} {r:Int × Int × List Nd} (h:Res t r):Fm.i64 r.1:=by
 rcases h.out with ⟨_,h1⟩ | ⟨_,h1⟩
 ·have h2:=Fm.has_iff.1 h1
  have:=h.ok.len
  exact ⟨by omega,by omega⟩
 ·rw [h1];exact ⟨by omega,by omega⟩
theorem has_app {t u:List Nd} {i:Int} (h:Fm.has t i=true):Fm.has (t ++ u) i=true:=by
 rw [Fm.has_iff] at *
 simp only [List.length_append]
 omega
theorem put_res {t:List Nd} (h:Fm.Ok t) {n:Nd} (hn:Fm.good n) (hc:Fm.check t n=0):Res t (Fm.put t n):=by
 refine ⟨Fm.ok_put h hn,(Fm.put_len t n).2,?_⟩
 unfold Fm.put
 rw [if_pos hc]
 split
 ·rename_i hm
  refine Or.inl ⟨rfl,Fm.has_iff.2 ⟨by simp,?_⟩⟩
  have:=List.idxOf_lt_length_iff.2 hm
  simpa using this
 ·split
  ·exact Or.inr ⟨rfl,rfl⟩
  ·exact Or.inl ⟨rfl,Fm.has_iff.2 ⟨by simp,by simp;omega⟩⟩
theorem check_join {t:List Nd} {k x y:Int} (hk:k=3∨k=4∨k=5) (hx:Fm.has t x=true) (hy:Fm.has t y=true):Fm.check t ⟨k,⟨#[]⟩,x,y⟩=0:=by
 have hj:Fm.jn k=true:=by rcases hk with rfl | rfl | rfl <;> rfl
 have h1:k≠1:=by omega
 have h2:k≠2:=by omega
 have hs:Fm.shaped t ⟨k,⟨#[]⟩,x,y⟩=true:=by
  unfold Fm.shaped
  simp only [if_neg h1,if_neg h2,hj,if_true,hx,hy]
  rfl
 unfold Fm.check
 rw [hs]
 simp [h1]
theorem has_i64 {t:List Nd} (h:Fm.Ok t) {x:Int} (hx:Fm.has t x=true):Fm.i64 x:=by
 have h2:=Fm.has_iff.1 hx
 have:=h.len
 exact ⟨by omega,by omega⟩
theorem join_res {t:List Nd} (h:Fm.Ok t) {k x y:Int} (hk:k=3∨k=4∨k=5) (hx:Fm.has t x=true) (hy:Fm.has t y=true):Res t (Fm.put t ⟨k,⟨#[]⟩,x,y⟩) :=
 put_res h (Fm.good_join k x y ⟨by omega,by omega⟩ (has_i64 h hx) (has_i64 h hy)) (check_join hk hx hy)
theorem check_bot (t:List Nd):Fm.check t Fm.bot=0:=rfl
theorem bot_res {t:List Nd} (h:Fm.Ok t):Res t (Fm.put t Fm.bot):=put_res h Fm.good_bot (check_bot t)
theorem word_len {s:ByteArray} (h:Fm.word s.data.toList=true):s.size≤31:=by
 unfold Fm.word at h
 simp only [Bool.and_eq_true,decide_eq_true_eq] at h
 exact h.1.1.1.2
theorem atom_res {t:List Nd} (h:Fm.Ok t) {s:ByteArray} (hs:Fm.word s.data.toList=true):Res t (Fm.put t ⟨1,s,0,0⟩):=by
 have h31:=word_len hs
 have i0:Fm.i64 0:=⟨by decide,by decide⟩
 have i1:Fm.i64 1:=⟨by decide,by decide⟩
 refine put_res h ⟨i1,by show s.size≤_;omega,i0,i0⟩ ?_
 have h2:Fm.shaped t ⟨1,s,0,0⟩=true:=rfl
 unfold Fm.check
 rw [h2]
 simp [hs]
theorem Res.trans {t t1:List Nd} {r:Int × Int × List Nd} (h:∃ u,t1=t ++ u) (k:Res t1 r):Res t r:=by
 obtain ⟨u,rfl⟩:=h
 obtain ⟨u2,h2⟩:=k.pre
 exact ⟨k.ok,⟨u ++ u2,by rw [h2,List.append_assoc]⟩,k.out⟩
theorem thn_res {t:List Nd} {r:Int × Int × List Nd} {k:Int→List Nd→Int × Int × List Nd} (h:Res t r) (hk:Fm.has r.2.2 r.1=true→Fm.Ok r.2.2→Res r.2.2 (k r.1 r.2.2)):Res t (thn r k):=by
 unfold thn
 split
 ·rename_i h0
  rcases h.out with ⟨_,h1⟩ | ⟨h1,_⟩
  ·exact Res.trans h.pre (hk h1 h.ok)
  ·omega
 ·exact h
theorem notp_thn {t:List Nd} {x:Int} (hx:Fm.has t x=true):Fm.notp t x=thn (Fm.put t Fm.bot) fun b t=>Fm.put t ⟨5,⟨#[]⟩,x,b⟩:=by
 unfold Fm.notp thn
 rw [if_pos hx]
 split
 ·rfl
 ·rename_i h0
  obtain ⟨h1,h2⟩:=Fm.put_err h0
  rw [h1,← h2]
  generalize hp:Fm.put t Fm.bot=p at *
  obtain ⟨a,b,c⟩:=p
  simp only at h1 h2 ⊢
  rw [h1]
theorem notp_res {t:List Nd} (h:Fm.Ok t) {x:Int} (hx:Fm.has t x=true):Res t (Fm.notp t x):=by
 rw [notp_thn hx]
 refine thn_res (bot_res h) fun h1 h2=>join_res h2 (by omega) ?_ h1
 obtain ⟨u,hu⟩:=(bot_res h).pre
 rw [hu]
 exact has_app hx
theorem mutu_thn (t:List Nd) (x y:Int):mutu t x y=thn (Fm.put t ⟨5,⟨#[]⟩,x,y⟩) fun a t=>thn (Fm.put t ⟨5,⟨#[]⟩,y,x⟩) fun b t=>Fm.put t ⟨3,⟨#[]⟩,a,b⟩:=rfl
theorem Res.has {t:List Nd} {r:Int × Int × List Nd} (h:Res t r) {x:Int} (hx:Fm.has t x=true):Fm.has r.2.2 x=true:=by
 obtain ⟨u,hu⟩:=h.pre
 rw [hu]
 exact has_app hx
theorem mutu_res {t:List Nd} (h:Fm.Ok t) {x y:Int} (hx:Fm.has t x=true) (hy:Fm.has t y=true):Res t (mutu t x y):=by
 rw [mutu_thn]
 have r1:=join_res h (k:=5) (by omega) hx hy
 refine thn_res r1 fun h1 h2 => ?_
 have r2:=join_res h2 (k:=5) (by omega) (r1.has hy) (r1.has hx)
 exact thn_res r2 fun h3 h4=>join_res h4 (by omega) (r2.has h1) h3
theorem pt_res:∀ (a:T) {t:List Nd},Fm.Ok t→Wf a→Res t (pt a t)
 | .atom s,t,h,hw=>atom_res h hw
 | .bot,t,h,_=>bot_res h
 | .top,t,h,_=>thn_res (bot_res h) fun h1 h2=>notp_res h2 h1
 | .neg a,t,h,hw=>thn_res (pt_res a h hw) fun h1 h2=>notp_res h2 h1
 | .bin k a b,t,h,hw=>by
  have r1:=pt_res a h hw.2.1
  refine thn_res r1 fun h1 h2 => ?_
  have r2:=pt_res b h2 hw.2.2
  exact thn_res r2 fun h3 h4=>join_res h4 hw.1 (r2.has h1) h3
 | .iff a b,t,h,hw=>by
  have r1:=pt_res a h hw.1
  refine thn_res r1 fun h1 h2 => ?_
  have r2:=pt_res b h2 hw.2
  exact thn_res r2 fun h3 h4=>mutu_res h4 (r2.has h1) h3
def WfO:Out→Prop
 | .ok a _ _=>Wf a
 | .bad _ _=>True
def WfL:Lv→Prop
 | .ors a | .ands a=>Wf a
 | _=>True
theorem named_wf {s:ByteArray} {a:T} (h:named s=some a):Wf a:=by
 unfold named at h
 split at h
 ·cases h;trivial
 ·split at h
  ·cases h;trivial
  ·split at h
   ·rename_i h1;cases h;exact h1
   ·cases h
theorem wfo_refuse (ts:List Tn) (i n:Nat):WfO (refuse ts i n):=by
 unfold refuse
 split <;> trivial
theorem wf_stp {ts:List Tn} {i n:Nat} {k:Nat→Option Out} {o:Out} (h:stp ts i n k=some o) (hk:∀ n o,k n=some o→WfO o):WfO o:=by
 unfold stp at h
 split at h
 ·cases h;trivial
 ·exact hk _ _ h
theorem wf_bnd {x:Option Out} {k:T→Nat→Nat→Option Out} {o:Out} (h:bnd x k=some o) (hx:∀ o,x=some o→WfO o) (hk:∀ a i n o,Wf a→k a i n=some o→WfO o):WfO o:=by
 cases x with
 | none=>cases h
 | some x =>
  cases x with
  | bad e t=>cases h;trivial
  | ok a i n=>exact hk a i n o (hx _ rfl) h
theorem rd_wf (ts:List Tn):∀ (f:Nat) (lv:Lv) (i n d:Nat) (o:Out),WfL lv→rd ts f lv i n d=some o→WfO o
 | 0,lv,i,n,d,o,_,h=>by cases h
 | f+1,lv,i,n,d,o,hl,h=>by
  have ih:=rd_wf ts f
  cases lv with
  | formula =>
   refine wf_bnd h (fun o h=>ih _ _ _ _ _ (by first | trivial | exact trivial) h) fun a i n o ha h => ?_
   split at h
   ·exact wf_stp h fun n o h=>wf_bnd h (fun o h=>ih _ _ _ _ _ (by first | trivial | exact trivial) h) fun b i n o hb h=>by cases h;exact ⟨ha,hb⟩
   ·cases h;exact ha
  | implied =>
   refine wf_bnd h (fun o h=>ih _ _ _ _ _ (by first | trivial | exact trivial) h) fun a i n o ha h => ?_
   split at h
   ·exact wf_stp h fun n o h=>wf_bnd h (fun o h=>ih _ _ _ _ _ (by first | trivial | exact trivial) h) fun b i n o hb h=>by cases h;exact ⟨by omega,ha,hb⟩
   ·cases h;exact ha
  | joined=>exact wf_bnd h (fun o h=>ih _ _ _ _ _ (by first | trivial | exact trivial) h) fun a i n o ha h=>ih (.ors a) _ _ _ _ ha h
  | both=>exact wf_bnd h (fun o h=>ih _ _ _ _ _ (by first | trivial | exact trivial) h) fun a i n o ha h=>ih (.ands a) _ _ _ _ ha h
  | ors a =>
   unfold rd at h
   split at h
   ·exact wf_stp h fun n o h=>wf_bnd h (fun o h=>ih _ _ _ _ _ (by first | trivial | exact trivial) h) fun b i n o hb h=>ih (.ors (.bin 4 a b)) _ _ _ _ ⟨by omega,hl,hb⟩ h
   ·cases h;exact hl
  | ands a =>
   unfold rd at h
   split at h
   ·exact wf_stp h fun n o h=>wf_bnd h (fun o h=>ih _ _ _ _ _ (by first | trivial | exact trivial) h) fun b i n o hb h=>ih (.ands (.bin 3 a b)) _ _ _ _ ⟨by omega,hl,hb⟩ h
   ·cases h;exact hl
  | single =>
   unfold rd at h
   split at h
   ·exact wf_stp h fun n o h=>wf_bnd h (fun o h=>ih _ _ _ _ _ (by first | trivial | exact trivial) h) fun b i n o hb h=>by cases h;exact hb
   ·split at h
    ·split at h
     ·cases h;exact wfo_refuse _ _ _
     ·refine wf_stp h fun n o h=>wf_bnd h (fun o h=>ih _ _ _ _ _ (by first | trivial | exact trivial) h) fun b i n o hb h => ?_
      split at h
      ·exact wf_stp h fun n o h=>by cases h;exact hb
      ·cases h;exact wfo_refuse _ _ _
    ·split at h
     ·split at h
      ·cases h;exact wfo_refuse _ _ _
      ·rename_i a ha
       exact wf_stp h fun n o h=>by cases h;exact named_wf ha
     ·cases h;exact wfo_refuse _ _ _
theorem stp_cases {ts:List Tn} {i n:Nat} {k:Nat→Option Out} {o:Out} (h:stp ts i n k=some o):(512<up ts i n∧o=.bad 40 (tk ts i))∨(up ts i n≤512∧k (up ts i n)=some o):=by
 unfold stp at h
 split at h
 ·rename_i hu;cases h;exact Or.inl ⟨hu,rfl⟩
 ·exact Or.inr ⟨by omega,h⟩
theorem bnd_cases {x:Option Out} {k:T→Nat→Nat→Option Out} {o:Out} (h:bnd x k=some o):(∃ e t,x=some (.bad e t)∧o=.bad e t)∨∃ a i n,x=some (.ok a i n)∧k a i n=some o:=by
 cases x with
 | none=>cases h
 | some x =>
  cases x with
  | bad e t=>cases h;exact Or.inl ⟨e,t,rfl,rfl⟩
  | ok a i n=>exact Or.inr ⟨a,i,n,rfl,h⟩
theorem fin_stp {ts:List Tn} {i n:Nat} {k:Nat→Option Out} {o:Out} {Q:Out→Prop} (h:stp ts i n k=some o) (hb:∀ e t,Q (.bad e t)) (hk:up ts i n≤512→k (up ts i n)=some o→Q o):Q o:=by
 rcases stp_cases h with ⟨_,rfl⟩ | ⟨h1,h2⟩
 ·exact hb _ _
 ·exact hk h1 h2
theorem fin_bnd {x:Option Out} {k:T→Nat→Nat→Option Out} {o:Out} {Q:Out→Prop} (h:bnd x k=some o) (hb:∀ e t,Q (.bad e t)) (hk:∀ a i n,x=some (.ok a i n)→k a i n=some o→Q o):Q o:=by
 rcases bnd_cases h with ⟨_,_,_,rfl⟩ | ⟨a,i,n,h1,h2⟩
 ·exact hb _ _
 ·exact hk a i n h1 h2
theorem fine_ok {ts:List Tn} {lv:Lv} {i n:Nat} {a:T} {i' n':Nat} {o:Out} (ho:some (.ok a i' n')=some o) (h1:i+adv lv≤i') (h2:i'≤ts.length) (h3:n≤512→n'≤512):Fine ts lv i n o:=by
 cases ho
 intro _ _ _ e
 cases e
 exact ⟨h1,h2,h3⟩
theorem fine_ref {ts:List Tn} {lv:Lv} {i n i' n':Nat} {o:Out} (ho:some (refuse ts i' n')=some o):Fine ts lv i n o:=by
 cases ho
 exact fine_refuse _ _ _ _ _ _
theorem rd_fine (ts:List Tn):∀ (f:Nat) (lv:Lv) (i n d:Nat) (o:Out),i≤ts.length→rd ts f lv i n d=some o→Fine ts lv i n o
 | 0,lv,i,n,d,o,_,h=>by cases h
 | f+1,lv,i,n,d,o,hi,h=>by
  have ih:=rd_fine ts f
  have fb:=fine_bad ts lv i n
  cases lv with
  | formula =>
   refine fin_bnd h fb fun a i1 n1 hx hk => ?_
   have h1:=ih .implied i n d _ hi hx _ _ _ rfl
   simp only [adv] at h1
   split at hk
   ·rename_i hs
    have hl:=sgn_lt hs
    refine fin_stp hk fb fun hu hk=>fin_bnd hk fb fun b i2 n2 hx2 hk => ?_
    have h2:=ih .formula (i1+1) _ d _ (by omega) hx2 _ _ _ rfl
    simp only [adv] at h2
    exact fine_ok hk (by simp only [adv];omega) (by omega) fun _=>h2.2.2 hu
   ·exact fine_ok hk (by simp only [adv];omega) (by omega) h1.2.2
  | implied =>
   refine fin_bnd h fb fun a i1 n1 hx hk => ?_
   have h1:=ih .joined i n d _ hi hx _ _ _ rfl
   simp only [adv] at h1
   split at hk
   ·rename_i hs
    have hl:=sgn_lt hs
    refine fin_stp hk fb fun hu hk=>fin_bnd hk fb fun b i2 n2 hx2 hk => ?_
    have h2:=ih .implied (i1+1) _ d _ (by omega) hx2 _ _ _ rfl
    simp only [adv] at h2
    exact fine_ok hk (by simp only [adv];omega) (by omega) fun _=>h2.2.2 hu
   ·exact fine_ok hk (by simp only [adv];omega) (by omega) h1.2.2
  | joined =>
   refine fin_bnd h fb fun a i1 n1 hx hk => ?_
   have h1:=ih .both i n d _ hi hx _ _ _ rfl
   simp only [adv] at h1
   have h2:=ih (.ors a) i1 n1 d _ (by omega) hk
   intro a' i' n' e
   have h3:=h2 a' i' n' e
   simp only [adv] at h3 ⊢
   exact ⟨by omega,by omega,fun h=>h3.2.2 (h1.2.2 h)⟩
  | both =>
   refine fin_bnd h fb fun a i1 n1 hx hk => ?_
   have h1:=ih .single i n d _ hi hx _ _ _ rfl
   simp only [adv] at h1
   have h2:=ih (.ands a) i1 n1 d _ (by omega) hk
   intro a' i' n' e
   have h3:=h2 a' i' n' e
   simp only [adv] at h3 ⊢
   exact ⟨by omega,by omega,fun h=>h3.2.2 (h1.2.2 h)⟩
  | ors a =>
   unfold rd at h
   split at h
   ·rename_i hs
    have hl:=sgn_lt hs
    refine fin_stp h fb fun hu hk=>fin_bnd hk fb fun b i2 n2 hx2 hk => ?_
    have h2:=ih .both (i+1) _ d _ (by omega) hx2 _ _ _ rfl
    simp only [adv] at h2
    have h2':=ih _ i2 n2 d _ (by omega) hk
    intro a' i' n' e
    have h3:=h2' a' i' n' e
    simp only [adv] at h3 ⊢
    exact ⟨by omega,by omega,fun _=>h3.2.2 (h2.2.2 hu)⟩
   ·exact fine_ok h (by simp only [adv];omega) (by omega) fun h=>h
  | ands a =>
   unfold rd at h
   split at h
   ·rename_i hs
    have hl:=sgn_lt hs
    refine fin_stp h fb fun hu hk=>fin_bnd hk fb fun b i2 n2 hx2 hk => ?_
    have h2:=ih .single (i+1) _ d _ (by omega) hx2 _ _ _ rfl
    simp only [adv] at h2
    have h2':=ih _ i2 n2 d _ (by omega) hk
    intro a' i' n' e
    have h3:=h2' a' i' n' e
    simp only [adv] at h3 ⊢
    exact ⟨by omega,by omega,fun _=>h3.2.2 (h2.2.2 hu)⟩
   ·exact fine_ok h (by simp only [adv];omega) (by omega) fun h=>h
  | single =>
   unfold rd at h
   split at h
   ·rename_i hs
    have hl:=sgn_lt hs
    refine fin_stp h fb fun hu hk=>fin_bnd hk fb fun b i2 n2 hx2 hk => ?_
    have h2:=ih .single (i+1) _ d _ (by omega) hx2 _ _ _ rfl
    simp only [adv] at h2
    exact fine_ok hk (by simp only [adv];omega) (by omega) fun _=>h2.2.2 hu
   ·split at h
    ·rename_i hs
     have hl:=sgn_lt hs
     split at h
     ·exact fine_ref h
     ·refine fin_stp h fb fun hu hk=>fin_bnd hk fb fun b i2 n2 hx2 hk => ?_
      have h2:=ih .formula (i+1) _ (d+1) _ (by omega) hx2 _ _ _ rfl
      simp only [adv] at h2
      split at hk
      ·rename_i hs2
       have hl2:=sgn_lt hs2
       exact fin_stp hk fb fun hu2 hk=>fine_ok hk (by simp only [adv];omega) (by omega) fun _=>hu2
      ·exact fine_ref hk
    ·split at h
     ·rename_i hk
      have hl:=tk_lt (ts:=ts) (i:=i) (by omega)
      split at h
      ·exact fine_ref h
      ·exact fin_stp h fb fun hu hk=>fine_ok hk (by simp only [adv];omega) (by omega) fun _=>hu
     ·exact fine_ref h
end Go.Proofs.YtkmmlimekachbaaGreatDoor.Sx
/-
  Plain mathematics of counts over tables of formulas: what is counted row by row, how often a row stands in another one. No condition.
-/
namespace Go.Proofs.YtkmmlimekachbaaGreatDoor.Ms
open Fm (Nd)
def M:Int:=1099511627776
abbrev row (t:List Nd) (i:Nat):Nd:=t.getD i Fm.z
theorem row_at {t:List Nd} {i:Nat} (h:i<t.length):row t i=t[i]:=by simp [row,h]
def sm (a b:Int):Int:=if a+b > M then M else a+b
def sums:List Int→Int→Int
 | [],a=>a
 | n :: l,a=>sums l (min (a+n) M)
def cnt (z:Int) (f:Int→Int→Int→Int) (t:List Nd):Nat→Nat→Int
 | 0,_=>z
 | n+1,i=>if Fm.jn (row t i).k then f (row t i).k (cnt z f t n (row t i).l.toNat) (cnt z f t n (row t i).r.toNat) else z
def val (z:Int) (f:Int→Int→Int→Int) (t:List Nd) (i:Nat):Int:=cnt z f t (i+1) i
section
variable {t:List Nd} {z z':Int} {f f':Int→Int→Int→Int}
theorem parts_lt (h:Fm.Ok t) {i:Nat} (hi:i<t.length) (hj:Fm.jn (row t i).k=true):(row t i).l.toNat<i∧(row t i).r.toNat<i∧0≤(row t i).l∧0≤(row t i).r:=by
 rw [row_at hi] at hj ⊢
 have:=Fm.ok_parts h hi hj
 omega
theorem cnt_fuel (h:Fm.Ok t):∀ (n m i:Nat),i<t.length→i<n→i<m→cnt z f t n i=cnt z f t m i
 | 0,_,i,_,hn,_=>absurd hn (by omega)
 | _+1,0,i,_,_,hm=>absurd hm (by omega)
 | n+1,m+1,i,hi,hn,hm=>by
  unfold cnt
  split <;> rename_i hj
  ·have hp:=parts_lt h hi hj
   rw [cnt_fuel h n m (row t i).l.toNat (by omega) (by omega) (by omega),cnt_fuel h n m (row t i).r.toNat (by omega) (by omega) (by omega)]
  ·rfl
theorem val_eq (h:Fm.Ok t) {i:Nat} (hi:i<t.length):val z f t i=if Fm.jn (row t i).k then f (row t i).k (val z f t (row t i).l.toNat) (val z f t (row t i).r.toNat) else z:=by
 show cnt z f t (i+1) i=_
 rw [cnt]
 split <;> rename_i hj
 ·have hp:=parts_lt h hi hj
  rw [cnt_fuel h i ((row t i).l.toNat+1) (row t i).l.toNat (by omega) (by omega) (by omega),cnt_fuel h i ((row t i).r.toNat+1) (row t i).r.toNat (by omega) (by omega) (by omega)]
  rfl
 ·rfl
theorem val_rel (h:Fm.Ok t) (R:Nat→Int→Int→Prop) (hz:∀ i,i<t.length→Fm.jn (row t i).k=false→R i z z')
 (hf:∀ i,i<t.length→Fm.jn (row t i).k=true→∀ a a' b b',R (row t i).l.toNat a a'→R (row t i).r.toNat b b'→R i (f (row t i).k a b) (f' (row t i).k a' b')) :
 ∀ (n i:Nat),i<n→i<t.length→R i (val z f t i) (val z' f' t i)
 | 0,i,hn,_=>absurd hn (by omega)
 | n+1,i,hn,hi=>by
  rw [val_eq h hi,val_eq h hi]
  by_cases hj:Fm.jn (row t i).k=true
  ·have hp:=parts_lt h hi hj
   rw [if_pos hj,if_pos hj]
   exact hf i hi hj _ _ _ _ (val_rel h R hz hf n _ (by omega) (by omega)) (val_rel h R hz hf n _ (by omega) (by omega))
  ·rw [if_neg hj,if_neg hj]
   exact hz i hi (by simpa using hj)
end
def weightF (k l r:Int):Int:=if k=3 then sums [l,r,2] 0 else sums [l,r,1] 0
def weightV:=val 1 weightF
def weightG (k l r:Int):Int:=if k=3 then sm (sm 1 (sm l r)) 1 else sm 1 (sm l r)
section
variable {t:List Nd} (h:Fm.Ok t) {i:Nat} (hi:i<t.length)
include h hi
theorem weight_ref:weightV t i=val 1 weightG t i∧1≤weightV t i∧weightV t i≤M :=
 val_rel h (fun _ a b=>a=b∧1≤a∧a≤M) (fun _ _ _=>by simp [M]) (fun i hi hj a a' b b' h1 h2=>by
  obtain ⟨rfl,h1⟩:=h1;obtain ⟨rfl,h2⟩:=h2
  simp only [weightF,weightG,sums,sm,M] at *
  refine ⟨?_,?_,?_⟩ <;> (repeat' split) <;> omega) (i+1) i (by omega) hi
end
/-! ### how often a row stands in another one -/
abbrev C:=Nat→Int × Int
def at2 (c:C) (i:Nat) (v:Int × Int):C:=fun j=>if j=i then v else c j
def add2 (ad:Int→Int→Int) (a b:Int × Int):Int × Int:=(ad a.1 b.1,ad a.2 b.2)
def swp (a:Int × Int):Int × Int:=(a.2,a.1)
def turn (k:Int) (a:Int × Int):Int × Int:=if k=5 then swp a else a
def stpG (ad:Int→Int→Int) (t:List Nd) (i:Nat) (c:C):C :=
 if Fm.jn (row t i).k then
  at2 (at2 c (row t i).r.toNat (add2 ad (c (row t i).r.toNat) (c i))) (row t i).l.toNat
   (add2 ad (at2 c (row t i).r.toNat (add2 ad (c (row t i).r.toNat) (c i)) (row t i).l.toNat) (turn (row t i).k (c i)))
 else c
def ms (a b:Int):Int:=min (min (0+a) M+b) M
abbrev stp:=stpG ms
def c0 (i:Nat):C:=fun j=>if j=i then (1,0) else (0,0)
def Inr (c:C):Prop:=∀ j,0≤(c j).1∧(c j).1≤M∧0≤(c j).2∧(c j).2≤M
theorem below_sorted (t:List Nd) (id:Nat):(Fm.below t id).Pairwise (·< ·):=(List.pairwise_lt_range).filter _
abbrev pl (a b:Int):Int:=a+b
end Go.Proofs.YtkmmlimekachbaaGreatDoor.Ms
/-
  Plain mathematics of rows of numbers: the greatest first, the order of rows, what two rows have each without the other. No condition.
-/
namespace Go.Proofs.YtkmmlimekachbaaGreatDoor.Ms
def fall (a:List Int):List Int:=a.mergeSort fun x y=>decide (y≤x)
theorem fall_perm (a:List Int):(fall a).Perm a:=List.mergeSort_perm _ _
theorem fall_len (a:List Int):(fall a).length=a.length:=(fall_perm a).length_eq
end Go.Proofs.YtkmmlimekachbaaGreatDoor.Ms

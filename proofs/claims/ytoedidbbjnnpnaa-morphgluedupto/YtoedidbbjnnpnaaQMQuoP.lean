/-
  The rows that Quotient puts together (plain).
-/
import Derived.Test.YtoedidbbjnnpnaaTH21
import Derived.Test.YtoedidbbjnnpnaaTH18
namespace Go.Proofs.Ytoedidbbjnnpnaa.Wm
open Wd (Md Rc Ed upd vl allW inW)
set_option linter.unusedSimpArgs false
set_option linter.unusedVariables false
def qRow (u:List (List Int)) (E:Nat→Nat→Bool) (k:Nat):List Int:=(u.getD k []).map fun b:Int=>(cnF E b.toNat:Int)
def qBeg (E:Nat→Nat→Bool) (k:Nat) (q:List (List Int)):List (List Int):=if isRep E k then q ++ [[]] else q
def qAdd (u:List (List Int)) (E:Nat→Nat→Bool) (k:Nat) (q:List (List Int)):List (List Int):=q.set (cnF E k) (q.getD (cnF E k) [] ++ qRow u E k)
def qU (u:List (List Int)) (E:Nat→Nat→Bool):Nat→List (List Int)
 | 0=>[]
 | k+1=>qAdd u E k (qBeg E k (qU u E k))
def qV (m:Md) (E:Nat→Nat→Bool):Nat→List (List ByteArray)
 | 0=>[]
 | k+1=>if isRep E k then qV m E k ++ [vl m k] else qV m E k
section
variable {u:List (List Int)} {E:Nat→Nat→Bool} {m:Md} {n:Nat}
theorem qBeg_len {q:List (List Int)} {k:Nat} (h:q.length=repsTo E k):(qBeg E k q).length=repsTo E (k+1):=by
 unfold qBeg
 rw [repsTo_succ]
 split <;> simp [h]
theorem qU_len:∀ k,(qU u E k).length=repsTo E k
 | 0=>rfl
 | k+1=>by
  show (qAdd u E k (qBeg E k (qU u E k))).length=_
  unfold qAdd
  rw [List.length_set]
  exact qBeg_len (qU_len k)
theorem qV_len:∀ k,(qV m E k).length=repsTo E k
 | 0=>rfl
 | k+1=>by
  show (if isRep E k then qV m E k ++ [vl m k] else qV m E k).length=_
  rw [repsTo_succ]
  split <;> simp [qV_len k]
theorem cn_old (hE:Eqv E) {k:Nat} (h:isRep E k=false):cnF E k<repsTo E k:=by
 obtain ⟨h1,_,h3⟩:=rep_spec hE k
 have hne:repF E k≠k:=fun e=>by rw [e,h] at h3;cases h3
 unfold cnF
 exact repsTo_lt h3 (by omega)
theorem cn_at (hE:Eqv E) (k:Nat):cnF E k=repsTo E k ↔ isRep E k=true:=by
 constructor
 ·intro h
  cases hr:isRep E k
  ·have:=cn_old hE hr;omega
  ·rfl
 ·exact cn_new
theorem getD_beg (k:Nat) (q:List (List Int)) (i:Nat):(qBeg E k q).getD i []=q.getD i []:=by
 unfold qBeg
 split
 ·rw [List.getD_eq_getElem?_getD,List.getD_eq_getElem?_getD]
  rcases Nat.lt_or_ge i q.length with h | h
  ·rw [List.getElem?_append_left h]
  ·rw [List.getElem?_append_right h,List.getElem?_eq_none h]
   rcases e:i - q.length with _ | j <;> simp
 ·rfl
theorem getD_add (hE:Eqv E) (k:Nat) {q:List (List Int)} (hq:q.length=repsTo E k) (i:Nat):(qAdd u E k (qBeg E k q)).getD i []=if i=cnF E k then q.getD i [] ++ qRow u E k else q.getD i []:=by
 have hlt:cnF E k<(qBeg E k q).length:=by rw [qBeg_len hq];exact cn_lt hE (Nat.lt_succ_self k)
 unfold qAdd
 rw [List.getD_eq_getElem?_getD,List.getElem?_set]
 by_cases e:cnF E k=i
 ·rw [if_pos e,if_pos hlt,if_pos e.symm,getD_beg,e];rfl
 ·rw [if_neg e,if_neg (fun h=>e h.symm),← List.getD_eq_getElem?_getD,getD_beg]
theorem ed_getD {u:List (List Int)} {a b:Nat}:Ed u a b ↔ (b:Int) ∈ u.getD a []:=by
 rw [List.getD_eq_getElem?_getD]
 constructor
 ·rintro ⟨r,hr,hb⟩
  rw [hr];exact hb
 ·intro h
  cases hr:u[a]? with
  | none=>rw [hr] at h;simp at h
  | some r=>rw [hr] at h;exact ⟨r,hr,h⟩
theorem qU_ed (hE:Eqv E) (hu:∀ a x,x ∈ u.getD a []→0≤x):∀ k c d,Ed (qU u E k) c d ↔ ∃ a b,a<k∧cnF E a=c∧Ed u a b∧cnF E b=d
 | 0,c,d=>by
  rw [ed_getD]
  constructor
  ·intro h;simp [qU] at h
  ·rintro ⟨a,_,h,_⟩;omega
 | k+1,c,d=>by
  rw [ed_getD,show qU u E (k+1)=qAdd u E k (qBeg E k (qU u E k)) from rfl,getD_add hE k (qU_len k)]
  have ih:=qU_ed hE hu k c d
  rw [ed_getD] at ih
  have hrow:(d:Int) ∈ qRow u E k ↔ ∃ b,Ed u k b∧cnF E b=d:=by
   unfold qRow
   rw [List.mem_map]
   constructor
   ·rintro ⟨x,hx,h⟩
    obtain ⟨y,rfl⟩:=Int.eq_ofNat_of_zero_le (hu k x hx)
    exact ⟨y,ed_getD.2 hx,by rw [Int.toNat_natCast] at h;omega⟩
   ·rintro ⟨b,hb,h⟩
    exact ⟨b,ed_getD.1 hb,by rw [Int.toNat_natCast,h]⟩
  by_cases e:c=cnF E k
  ·rw [if_pos e,List.mem_append,ih,hrow]
   constructor
   ·rintro (⟨a,b,h1,h2⟩ | ⟨b,h1,h2⟩)
    ·exact ⟨a,b,by omega,h2⟩
    ·exact ⟨k,b,by omega,e.symm,h1,h2⟩
   ·rintro ⟨a,b,h1,h2,h3,h4⟩
    by_cases e2:a=k
    ·subst e2;exact Or.inr ⟨b,h3,h4⟩
    ·exact Or.inl ⟨a,b,by omega,h2,h3,h4⟩
  ·rw [if_neg e,ih]
   constructor
   ·rintro ⟨a,b,h1,h2⟩;exact ⟨a,b,by omega,h2⟩
   ·rintro ⟨a,b,h1,h2,h3⟩
    have e2:a≠k:=fun h=>e (by rw [← h2,h])
    exact ⟨a,b,by omega,h2,h3⟩
theorem qU_row (hE:Eqv E) {B:Nat} (hu:∀ a,(u.getD a []).length≤B):∀ k i,((qU u E k).getD i []).length≤k * B
 | 0,i=>by simp [qU]
 | k+1,i=>by
  rw [show qU u E (k+1)=qAdd u E k (qBeg E k (qU u E k)) from rfl,getD_add hE k (qU_len k)]
  have ih:=qU_row hE hu k i
  have hk:=hu k
  rw [Nat.succ_mul]
  split
  ·rw [List.length_append]
   have:(qRow u E k).length≤B:=by unfold qRow;rw [List.length_map];exact hk
   omega
  ·omega
theorem reps_ex:∀ {n c:Nat},c<repsTo E n→∃ a,a<n∧isRep E a=true∧repsTo E a=c
 | n+1,c,h=>by
  rw [repsTo_succ] at h
  by_cases h1:c<repsTo E n
  ·obtain ⟨a,h2,h3⟩:=reps_ex h1
   exact ⟨a,by omega,h3⟩
  ·cases hr:isRep E n
   ·rw [hr] at h;simp at h;omega
   ·rw [hr] at h;simp at h
    exact ⟨n,by omega,hr,by omega⟩
theorem qV_mem (hn:m.up.length≤m.val.length):∀ k,k≤m.up.length→∀ r ∈ qV m E k,r ∈ m.val
 | 0,_,r,hr=>by simp [qV] at hr
 | k+1,hk,r,hr=>by
  have hvk:vl m k ∈ m.val:=by
   unfold vl
   rw [List.getD_eq_getElem?_getD,List.getElem?_eq_getElem (by omega)]
   exact List.getElem_mem _
  simp only [qV] at hr
  split at hr
  ·rcases List.mem_append.1 hr with h | h
   ·exact qV_mem hn k (by omega) r h
   ·simp at h;rw [h];exact hvk
  ·exact qV_mem hn k (by omega) r hr
theorem qV_at (hE:Eqv E) (hv:∀ a b,a<n→b<n→cnF E a=cnF E b→vl m a=vl m b):∀ k,k≤n→∀ a,a<k→(qV m E k)[cnF E a]?=some (vl m a)
 | k+1,hk,a,ha=>by
  show (if isRep E k then qV m E k ++ [vl m k] else qV m E k)[cnF E a]?=_
  have ih:=qV_at hE hv k (by omega)
  by_cases e:a=k
  ·subst e
   cases hr:isRep E a
   ·obtain ⟨h1,h2,h3⟩:=rep_spec hE a
    have hne:repF E a≠a:=fun e=>by rw [e,hr] at h3;cases h3
    have hcn:cnF E (repF E a)=cnF E a:=(cn_eq hE).2 h2
    have:=ih (repF E a) (by omega)
    rw [if_neg (by simp),← hcn,this,hv (repF E a) a (by omega) (by omega) hcn]
   ·rw [if_pos rfl,cn_new hr,← qV_len (m:=m) (E:=E) a,List.getElem?_append_right (Nat.le_refl _)]
    simp
  ·have h1:=ih a (by omega)
   split
   ·rw [List.getElem?_append_left (List.getElem?_eq_some_iff.1 h1).1];exact h1
   ·exact h1
end
theorem quo_ok {m t:Md} {E:Nat→Nat→Bool} (hE:Eqv E) (hG:Wd.Good m) (hT:Wd.Good t) (htl:t.up.length=m.up.length) (htv:t.val=m.val) (hr:∀ a b,Rc t.up a b ↔ Rc m.up a b) (hc:ClsP m (cnF E)) :
 IsQ m ⟨qU t.up E m.up.length,qV m E m.up.length⟩ (cnF E)∧Wd.Good ⟨qU t.up E m.up.length,qV m E m.up.length⟩:=by
 obtain ⟨h1,h2,h3,h4,h5⟩:=Wd.shaped_and hG.shape
 obtain ⟨t1,t2,t3,t4,t5⟩:=Wd.shaped_and hT.shape
 have hlt:∀ a b,a<m.up.length→Rc m.up a b→b<m.up.length:=fun a b ha h=>Wd.rc_lt h4 h ha
 have hu0:∀ a x,x ∈ t.up.getD a []→0≤x∧x<(m.up.length:Int):=fun a x hx=>by
  rw [List.getD_eq_getElem?_getD] at hx
  cases hr:t.up[a]? with
  | none=>rw [hr] at hx;simp at hx
  | some r =>
   rw [hr] at hx
   have:=List.all_eq_true.1 (t4 r (List.mem_of_getElem? hr)) x hx
   unfold inW at this
   simp only [Bool.and_eq_true,decide_eq_true_eq] at this
   rw [htl] at this
   exact this
 have hed:=qU_ed (u:=t.up) hE (fun a x hx=>(hu0 a x hx).1)
 have hq:QEd m.up.length t.up (qU t.up E m.up.length) (cnF E):=hed m.up.length
 have hrc:=fun {c d:Nat}=>q_rc (c:=c) (d:=d) hc hlt (fun a b _=>hr a b) hq
 have hlen:(qU t.up E m.up.length).length=repsTo E m.up.length:=qU_len _
 have hex:∀ c,c<repsTo E m.up.length ↔ ∃ a,a<m.up.length∧cnF E a=c:=fun c=>by
  constructor
  ·intro h
   obtain ⟨a,k1,k2,k3⟩:=reps_ex h
   exact ⟨a,k1,by rw [cn_new k2];exact k3⟩
  ·rintro ⟨a,k1,rfl⟩
   exact cn_lt hE k1
 have hvl:∀ a,a<m.up.length→vl ⟨qU t.up E m.up.length,qV m E m.up.length⟩ (cnF E a)=vl m a:=fun a ha=>by
  show (qV m E m.up.length).getD (cnF E a) []=_
  rw [List.getD_eq_getElem?_getD,qV_at hE hc.val m.up.length (Nat.le_refl _) a ha];rfl
 have hsee:∀ a c,a<m.up.length→(Rc (qU t.up E m.up.length) (cnF E a) c ↔ Sees m (cnF E) a c):=fun a c ha=>by
  rw [hrc]
  constructor
  ·rintro (⟨_,h⟩ | ⟨a',k1,k2,k3⟩)
   ·exact absurd rfl (h a ha)
   ·exact hc.sees a' a k1 ha k2 c k3
  ·intro h;exact Or.inr ⟨a,ha,rfl,h⟩
 refine ⟨⟨fun c=>by rw [show (⟨qU t.up E m.up.length,qV m E m.up.length⟩:Md).up.length=repsTo E m.up.length from hlen];exact hex c,hsee,hvl⟩,?_,fun c d hc' r1 r2 => ?_,fun c d hc' r => ?_⟩
 ·unfold Wd.shaped
  simp only [Bool.and_eq_true,decide_eq_true_eq,List.all_eq_true]
  have hle:=repsTo_le (E:=E) m.up.length
  have h0:0<repsTo E m.up.length:=(hex _).2 ⟨0,by omega,cn_new (isRep_iff.2 fun v hv=>absurd hv (Nat.not_lt_zero _))⟩
  refine ⟨⟨⟨⟨by rw [hlen];omega,by rw [hlen];omega⟩,by rw [hlen];exact qV_len _⟩,fun r hr' => ?_⟩,fun r hr' => ?_⟩
  ·obtain ⟨c,hc',rfl⟩:=List.mem_iff_getElem.1 hr'
   unfold allW
   rw [List.all_eq_true]
   intro x hx
   have hx0:∀ k i x,x ∈ (qU t.up E k).getD i []→∃ y:Nat,x=(y:Int):=by
    intro k
    induction k with
    | zero=>intro i x hx;simp [qU] at hx
    | succ k ih =>
     intro i x hx
     rw [show qU t.up E (k+1)=qAdd t.up E k (qBeg E k (qU t.up E k)) from rfl,getD_add hE k (qU_len k)] at hx
     split at hx
     ·rcases List.mem_append.1 hx with h | h
      ·exact ih i x h
      ·obtain ⟨y,_,rfl⟩:=List.mem_map.1 h
       exact ⟨_,rfl⟩
     ·exact ih i x hx
   obtain ⟨y,rfl⟩:=hx0 m.up.length c x (by rw [List.getD_eq_getElem?_getD,List.getElem?_eq_getElem hc'];exact hx)
   obtain ⟨a,b,k1,k2,k3,k4⟩:=(hed m.up.length c y).1 ⟨_,List.getElem?_eq_getElem hc',hx⟩
   have hb:b<m.up.length:=hlt a b k1 ((hr a b).1 (.one k3))
   have:=cn_lt hE hb
   unfold inW
   rw [hlen]
   simp;omega
  ·have hmem:∀ k,k≤m.up.length→∀ r ∈ qV m E k,r ∈ m.val:=by
    intro k
    induction k with
    | zero=>intro _ r hr;simp [qV] at hr
    | succ k ih =>
     intro hk r hr
     have hvk:vl m k ∈ m.val:=by
      unfold vl
      rw [List.getD_eq_getElem?_getD,List.getElem?_eq_getElem (by omega)]
      exact List.getElem_mem _
     simp only [qV] at hr
     split at hr
     ·rcases List.mem_append.1 hr with h | h
      ·exact ih (by omega) r h
      ·simp at h;rw [h];exact hvk
     ·exact ih (by omega) r hr
   exact h5 _ (hmem _ (Nat.le_refl _) r hr')
 ·have hc':c<(qU t.up E m.up.length).length:=hc'
  rw [hlen] at hc'
  obtain ⟨a,k1,rfl⟩:=(hex c).1 hc'
  have s1:=(hsee a d k1).1 r1
  obtain ⟨x,x1,x2⟩:=s1
  have hx:=hlt a x k1 x1
  subst x2
  exact q_anti hc hlt (anti_all hG) k1 hx rfl rfl ⟨x,x1,rfl⟩ ((hsee x _ hx).1 r2)
 ·have hc':c<(qU t.up E m.up.length).length:=hc'
  rw [hlen] at hc'
  obtain ⟨a,k1,rfl⟩:=(hex c).1 hc'
  obtain ⟨x,x1,rfl⟩:=(hsee a d k1).1 r
  rw [hvl a k1,hvl x (hlt a x k1 x1)]
  exact hG.mono a x k1 x1
end Go.Proofs.Ytoedidbbjnnpnaa.Wm

/-
  What tidying keeps: plain. No condition.
-/
import Derived.Test.YtoedidbbjnnpnaaQWSame
namespace Go.Proofs.Ytoedidbbjnnpnaa.Wm
open Wd (Md Ed Rc Sub vl allW inW)
theorem countP_lt {l:List Nat} {p q:Nat→Bool} (h:∀ y ∈ l,p y=true→q y=true) {z:Nat} (hz:z ∈ l) (hq:q z=true) (hp:p z=false):l.countP p<l.countP q:=by
 have hle:∀ l:List Nat,(∀ y ∈ l,p y=true→q y=true)→l.countP p≤l.countP q:=fun l h=>List.countP_mono_left h
 induction l with
 | nil=>cases hz
 | cons a r ih =>
  rw [List.countP_cons,List.countP_cons]
  rcases List.mem_cons.1 hz with rfl | hz
  ·have:=hle r fun y hy=>h y (List.mem_cons_of_mem _ hy)
   rw [hq,hp]
   simp
   omega
  ·have:=ih (fun y hy=>h y (List.mem_cons_of_mem _ hy)) hz
   have ha:=h a (List.mem_cons_self)
   by_cases e:p a=true
   ·rw [e,ha e];omega
   ·rw [if_neg e]
    split <;> omega
theorem le_of_sub:∀ (l l':List Nat),l.Nodup→(∀ x ∈ l,x ∈ l')→l.length≤l'.length
 | [],_,_,_=>Nat.zero_le _
 | x :: r,l',hn,h=>by
  have hx:=h x (List.mem_cons_self)
  have hr:=List.nodup_cons.1 hn
  have:=le_of_sub r (l'.erase x) hr.2 fun y hy=>(List.mem_erase_of_ne (fun e:y=x=>hr.1 (e ▸ hy))).2 (h y (List.mem_cons_of_mem _ hy))
  rw [List.length_erase_of_mem hx] at this
  have:0<l'.length:=List.length_pos_of_mem hx
  rw [List.length_cons]
  omega
theorem mem_over {M:Nat→Nat→Bool} {n a v:Nat}:v ∈ numsTo (ovP M a) n ↔ v<n∧v≠a∧M a v=true:=by
 unfold numsTo
 rw [List.mem_filter,List.mem_range]
 simp only [ovP,Int.toNat_natCast,Bool.and_eq_true,decide_eq_true_eq]
 constructor
 ·rintro ⟨h1,h2,h3⟩
  exact ⟨h1,fun e=>h2 (by rw [e]),h3⟩
 ·rintro ⟨h1,h2,h3⟩
  exact ⟨h1,fun e=>h2 (by omega),h3⟩
theorem mem_nx {M:Nat→Nat→Bool} {n a v:Nat}:v ∈ nxF M n a ↔ v<n∧v≠a∧M a v=true∧∀ x,x<n→x≠a→M a x=true→x≠v→M x v=false:=by
 unfold nxF
 rw [List.mem_filter,mem_over]
 have e:(!bwP M (numsTo (ovP M a) n) (v:Int))=true ↔ ∀ x,x<n→x≠a→M a x=true→x≠v→M x v=false:=by
  rw [Bool.not_eq_true']
  unfold bwP
  rw [List.any_eq_false]
  simp only [btP,Int.toNat_natCast,Bool.and_eq_true,decide_eq_true_eq,not_and,Bool.not_eq_true]
  constructor
  ·intro h x h1 h2 h3 h4
   exact h x (mem_over.2 ⟨h1,h2,h3⟩) (by omega)
  ·intro h x hx h4
   obtain ⟨h1,h2,h3⟩:=mem_over.1 hx
   exact h x h1 h2 h3 (fun e=>h4 (by rw [e]))
 rw [e]
 constructor
 ·rintro ⟨⟨h1,h2,h3⟩,h4⟩;exact ⟨h1,h2,h3,h4⟩
 ·rintro ⟨h1,h2,h3,h4⟩;exact ⟨⟨h1,h2,h3⟩,h4⟩
theorem tdU_get {M:Nat→Nat→Bool} {n k a:Nat}:(tdU M n k)[a]?=if a<k then some ((nxF M n a).map fun n:Nat=>(n:Int)) else none:=by
 unfold tdU
 by_cases h:a<k
 ·simp [h]
 ·rw [if_neg h]
  exact List.getElem?_eq_none (by simp;omega)
theorem ed_td {M:Nat→Nat→Bool} {n a b:Nat}:Ed (tdU M n n) a b ↔ a<n∧b ∈ nxF M n a:=by
 unfold Ed
 rw [tdU_get]
 by_cases h:a<n
 ·rw [if_pos h]
  constructor
  ·rintro ⟨r,hr,hb⟩
   cases hr
   obtain ⟨c,hc,e⟩:=List.mem_map.1 hb
   have:c=b:=by omega
   exact ⟨h,this ▸ hc⟩
  ·rintro ⟨_,hb⟩
   exact ⟨_,rfl,List.mem_map.2 ⟨b,hb,rfl⟩⟩
 ·rw [if_neg h]
  constructor
  ·rintro ⟨r,hr,_⟩;cases hr
  ·rintro ⟨h1,_⟩;exact absurd h1 h
section
variable {m:Md} {M:Nat→Nat→Bool} (hO:IsO m.up M) (hG:Wd.Good m)
include hO
theorem td_sub {a b:Nat} (h:Rc (tdU M m.up.length m.up.length) a b):Rc m.up a b:=by
 induction h with
 | refl=>exact .refl _
 | step e _ ih=>exact Rc.trans ((hO _ _).1 (mem_nx.1 (ed_td.1 e).2).2.2.1) ih
include hG
theorem td_sup (k:Nat):∀ a b,a<m.up.length→M a b=true→(List.range m.up.length).countP (fun y=>M a y && M y b)≤k→Rc (tdU M m.up.length m.up.length) a b:=by
 have hrow:=(Wd.shaped_and hG.shape).2.2.2.1
 have htr:∀ x y z,M x y=true→M y z=true→M x z=true:=fun x y z h1 h2=>(hO x z).2 (((hO x y).1 h1).trans ((hO y z).1 h2))
 have hrf:∀ x,M x x=true:=fun x=>(hO x x).2 (.refl _)
 have han:∀ x y,x<m.up.length→M x y=true→M y x=true→x=y:=fun x y hx h1 h2=>hG.anti x y hx ((hO x y).1 h1) ((hO y x).1 h2)
 induction k with
 | zero =>
  intro a b ha hab hc
  have:0<(List.range m.up.length).countP (fun y=>M a y && M y b):=List.countP_pos_iff.2 ⟨a,List.mem_range.2 ha,by rw [hrf a,hab];rfl⟩
  omega
 | succ k ih =>
  intro a b ha hab hc
  have hb:b<m.up.length:=Wd.rc_lt hrow ((hO a b).1 hab) ha
  by_cases e:a=b
  ·exact e ▸ .refl _
  ·by_cases hx:∃ x,x<m.up.length∧x≠a∧M a x=true∧x≠b∧M x b=true
   ·obtain ⟨x,h1,h2,h3,h4,h5⟩:=hx
    have c1:(List.range m.up.length).countP (fun y=>M a y && M y x)<(List.range m.up.length).countP (fun y=>M a y && M y b):=by
     refine countP_lt (fun y _ hy => ?_) (List.mem_range.2 hb) (by rw [hab,hrf b];rfl) ?_
     ·rw [Bool.and_eq_true] at hy ⊢
      exact ⟨hy.1,htr _ _ _ hy.2 h5⟩
     ·rw [hab,Bool.true_and]
      cases hbx:M b x
      ·rfl
      ·exact absurd (han x b h1 h5 hbx) h4
    have c2:(List.range m.up.length).countP (fun y=>M x y && M y b)<(List.range m.up.length).countP (fun y=>M a y && M y b):=by
     refine countP_lt (fun y _ hy => ?_) (List.mem_range.2 ha) (by rw [hab,hrf a];rfl) ?_
     ·rw [Bool.and_eq_true] at hy ⊢
      exact ⟨htr _ _ _ h3 hy.1,hy.2⟩
     ·rw [hab,Bool.and_true]
      cases hxa:M x a
      ·rfl
      ·exact absurd (han x a h1 hxa h3) h2
    exact (ih a x ha h3 (by omega)).trans (ih x b h1 h5 (by omega))
   ·refine Rc.one (ed_td.2 ⟨ha,mem_nx.2 ⟨hb,fun h=>e h.symm,hab,fun x h1 h2 h3 h4 => ?_⟩⟩)
    cases hxb:M x b
    ·rfl
    ·exact absurd ⟨x,h1,h2,h3,h4,hxb⟩ hx
theorem isO_td:IsO (tdU M m.up.length m.up.length) M:=fun a b=>by
 constructor
 ·intro h
  by_cases ha:a<m.up.length
  ·exact td_sup hO hG _ a b ha h (Nat.le_refl _)
  ·have hr:=(hO a b).1 h
   cases hr with
   | refl=>exact .refl _
   | step e _=>exact absurd (Wd.ed_from e) ha
 ·intro h
  exact (hO a b).2 (td_sub hO h)
theorem good_td:Wd.Good ⟨tdU M m.up.length m.up.length,m.val⟩:=by
 obtain ⟨h1,h2,h3,h4,h5⟩:=Wd.shaped_and hG.shape
 refine ⟨?_,fun a b ha r1 r2 => ?_,fun a b ha r => ?_⟩
 ·unfold Wd.shaped
  simp only [tdU_len,Bool.and_eq_true,decide_eq_true_eq,List.all_eq_true]
  refine ⟨⟨⟨⟨h1,h2⟩,h3⟩,fun r hr => ?_⟩,h5⟩
  unfold tdU at hr
  obtain ⟨a,_,rfl⟩:=List.mem_map.1 hr
  simp only [allW,List.all_eq_true,inW,Bool.and_eq_true,decide_eq_true_eq]
  intro x hx
  obtain ⟨v,hv,rfl⟩:=List.mem_map.1 hx
  have:=(mem_nx.1 hv).1
  exact ⟨by omega,by omega⟩
 ·have ha':a<m.up.length:=by simpa [tdU_len] using ha
  exact hG.anti a b ha' (td_sub hO r1) (td_sub hO r2)
 ·have ha':a<m.up.length:=by simpa [tdU_len] using ha
  exact hG.mono a b ha' (td_sub hO r)
theorem nx_ed {a v:Nat} (h:Rc m.up a v):a<m.up.length→v≠a→(∀ x,x<m.up.length→x≠a→M a x=true→x≠v→M x v=false)→Ed m.up a v:=by
 have hrow:=(Wd.shaped_and hG.shape).2.2.2.1
 induction h with
 | refl=>intro _ h;exact absurd rfl h
 | @step a b c e r ih =>
  intro ha hv hno
  have hb:=Wd.ed_lt hrow e
  by_cases e1:b=a
  ·subst e1
   exact ih ha hv hno
  ·by_cases e2:b=c
   ·exact e2 ▸ e
   ·have:=hno b hb e1 ((hO _ _).2 (.one e)) e2
    rw [(hO b c).2 r] at this
    cases this
theorem nx_len {a:Nat} (ha:a<m.up.length):(nxF M m.up.length a).length≤m.up[a].length:=by
 have hn:(nxF M m.up.length a).Nodup:=by
  unfold nxF numsTo
  exact List.Pairwise.filter _ (List.Pairwise.filter _ List.nodup_range)
 have:=le_of_sub (nxF M m.up.length a) (m.up[a].map Int.toNat) hn fun v hv=>by
  obtain ⟨h1,h2,h3,h4⟩:=mem_nx.1 hv
  obtain ⟨r,hr,hb⟩:=nx_ed hO hG ((hO a v).1 h3) ha h2 h4
  rw [List.getElem?_eq_getElem ha] at hr
  cases hr
  exact List.mem_map.2 ⟨_,hb,by simp⟩
 rwa [List.length_map] at this
end
def sL (u:List (List Int)):Nat→Nat
 | 0=>0
 | k+1=>sL u k+(u.getD k []).length
theorem sL_mono {u v:List (List Int)} {n:Nat} (h:∀ a,a<n→(u.getD a []).length≤(v.getD a []).length):∀ k,k≤n→sL u k≤sL v k
 | 0,_=>Nat.le_refl _
 | k+1,hk=>Nat.add_le_add (sL_mono h k (by omega)) (h k (by omega))
theorem sL_le {u:List (List Int)} {B:Nat} (h:∀ r ∈ u,r.length≤B):∀ k,sL u k≤k * B
 | 0=>by simp [sL]
 | k+1=>by
  have h1:=sL_le h k
  have h2:(u.getD k []).length≤B:=by
   rw [List.getD_eq_getElem?_getD]
   cases e:u[k]? with
   | none=>simp
   | some r=>exact h r (List.mem_of_getElem? e)
  rw [Nat.succ_mul]
  exact Nat.add_le_add h1 h2
theorem sL_td {m:Md} {M:Nat→Nat→Bool} (hO:IsO m.up M) (hG:Wd.Good m):sL (tdU M m.up.length m.up.length) m.up.length≤sL m.up m.up.length :=
 sL_mono (n:=m.up.length) (fun a ha=>by
  rw [List.getD_eq_getElem?_getD,List.getD_eq_getElem?_getD,tdU_get,if_pos ha,List.getElem?_eq_getElem ha]
  simpa using nx_len hO hG ha) _ (Nat.le_refl _)
theorem fit_td {m:Md} {M:Nat→Nat→Bool} (hf:Fit m) (hn:m.up.length≤512):Fit ⟨tdU M m.up.length m.up.length,m.val⟩:=by
 refine ⟨by simp [tdU_len];omega,hf.2.1,fun r hr => ?_,hf.2.2.2⟩
 have hr:r ∈ tdU M m.up.length m.up.length:=hr
 unfold tdU at hr
 obtain ⟨a,_,rfl⟩:=List.mem_map.1 hr
 refine ⟨?_,fun i hi => ?_⟩
 ·rw [List.length_map]
  have h1:(nxF M m.up.length a).length≤(numsTo (ovP M a) m.up.length).length:=List.length_filter_le _ _
  have h2:=numsTo_len (ovP M a) m.up.length
  omega
 ·obtain ⟨v,hv,rfl⟩:=List.mem_map.1 hi
  have:=(mem_nx.1 hv).1
  exact ⟨by omega,by omega⟩
end Go.Proofs.Ytoedidbbjnnpnaa.Wm
/-
  Who is above one world, found row by row: plain. No condition.
-/
namespace Go.Proofs.Ytoedidbbjnnpnaa.Wm
open Wd (Md Ed Rc allW inW upd)
structure Bf (u:List (List Int)) (a n:Nat) (S:Nat→Bool) (l:List Nat) (i k:Nat):Prop where
 mem:∀ b,b<n→(S b=true ↔ b ∈ l)
 lt:∀ b ∈ l,b<n
 nd:l.Nodup
 st:a ∈ l
 rc:∀ b ∈ l,Rc u a b
 cl:∀ (j:Nat) (hj:j<l.length),j<i→∀ r,u[l[j]]?=some r→∀ x ∈ r,0≤x∧x<(n:Int)∧x.toNat ∈ l
 cur:∀ (h:i<l.length) r,u[l[i]]?=some r→∀ (j:Nat) (hj:j<r.length),j<k→0≤r[j]∧r[j]<(n:Int)∧(r[j]).toNat ∈ l
 le:i≤l.length
section
variable {u:List (List Int)} {a n:Nat} {S:Nat→Bool} {l:List Nat} {i k:Nat}
theorem bf_start (ha:a<n):Bf u a n (fun b=>decide (b=a)) [a] 0 0 :=
 ⟨fun b _=>by simp,fun b hb=>by simp at hb;omega,by simp,by simp,fun b hb=>by simp at hb;subst hb;exact .refl _,fun j _ h=>absurd h (Nat.not_lt_zero _),fun _ r _ j _ h=>absurd h (Nat.not_lt_zero _),Nat.zero_le _⟩
theorem Bf.len (h:Bf u a n S l i k):l.length≤n:=by
 have:=le_of_sub l (List.range n) h.nd fun x hx=>List.mem_range.2 (h.lt x hx)
 rwa [List.length_range] at this
theorem Bf.seen (h:Bf u a n S l i k) (hi:i<l.length) {r:List Int} (hr:u[l[i]]?=some r) (hk:k<r.length) (h0:0≤r[k]) (h1:r[k]<(n:Int)) (hs:S (r[k]).toNat=true):Bf u a n S l i (k+1) :=
 ⟨h.mem,h.lt,h.nd,h.st,h.rc,h.cl,fun hi' r' hr' j hj hjk=>by
  obtain rfl:r=r':=Option.some.inj (hr.symm.trans hr')
  by_cases e:j=k
  ·subst e
   exact ⟨h0,h1,(h.mem _ (by omega)).1 hs⟩
  ·exact h.cur hi r hr j hj (by omega),h.le⟩
theorem Bf.new (h:Bf u a n S l i k) (hi:i<l.length) {r:List Int} (hr:u[l[i]]?=some r) (hk:k<r.length) (h0:0≤r[k]) (h1:r[k]<(n:Int)) (hs:S (r[k]).toNat=false):Bf u a n (upd S (r[k]).toNat true) (l ++ [(r[k]).toNat]) i (k+1):=by
 have hni:(r[k]).toNat ∉ l:=fun hm=>by rw [(h.mem _ (by omega)).2 hm] at hs;cases hs
 refine ⟨fun b hb => ?_,fun b hb => ?_,?_,List.mem_append_left _ h.st,fun b hb => ?_,fun j hj hji r' hr' x hx => ?_,fun hi' r' hr' j hj hjk => ?_,by rw [List.length_append];have:=h.le;omega⟩
 ·by_cases e:b=(r[k]).toNat
  ·subst e;rw [Wd.upd_same];simp
  ·rw [Wd.upd_other _ _ _ e,h.mem b hb,List.mem_append]
   simp [e]
 ·rcases List.mem_append.1 hb with hb | hb
  ·exact h.lt b hb
  ·simp at hb;omega
 ·rw [List.nodup_append]
  refine ⟨h.nd,by simp,fun x hx y hy => ?_⟩
  simp at hy
  subst hy
  exact fun e=>hni (e ▸ hx)
 ·rcases List.mem_append.1 hb with hb | hb
  ·exact h.rc b hb
  ·simp at hb
   subst hb
   exact (h.rc _ (List.getElem_mem hi)).trans (.one ⟨r,hr,by rw [show ((r[k]).toNat:Int)=r[k] by omega];exact List.getElem_mem hk⟩)
 ·have hj':j<l.length:=by have:=h.le;omega
  rw [List.getElem_append_left hj'] at hr'
  obtain ⟨q1,q2,q3⟩:=h.cl j hj' hji r' hr' x hx
  exact ⟨q1,q2,List.mem_append_left _ q3⟩
 ·rw [List.getElem_append_left hi] at hr'
  obtain rfl:r=r':=Option.some.inj (hr.symm.trans hr')
  by_cases e:j=k
  ·subst e
   exact ⟨h0,h1,List.mem_append_right _ (by simp)⟩
  ·obtain ⟨q1,q2,q3⟩:=h.cur hi r hr j hj (by omega)
   exact ⟨q1,q2,List.mem_append_left _ q3⟩
theorem Bf.next (h:Bf u a n S l i k) (hi:i<l.length) {r:List Int} (hr:u[l[i]]?=some r) (hk:r.length≤k):Bf u a n S l (i+1) 0 :=
 ⟨h.mem,h.lt,h.nd,h.st,h.rc,fun j hj hji r' hr' x hx=>by
  by_cases e:j=i
  ·subst e
   obtain rfl:r=r':=Option.some.inj (hr.symm.trans hr')
   obtain ⟨q,hq,rfl⟩:=List.mem_iff_getElem.1 hx
   exact h.cur hj r hr q hq (by omega)
  ·exact h.cl j hj (by omega) r' hr' x hx,fun _ r _ j _ h=>absurd h (Nat.not_lt_zero _),by omega⟩
theorem Bf.done (h:Bf u a n S l l.length k):(∀ b,b<n→(S b=true ↔ Rc u a b))∧∀ r,u[a]?=some r→allW n r=true:=by
 have clo:∀ b c,Rc u b c→b ∈ l→c ∈ l:=fun b c hr=>by
  induction hr with
  | refl=>exact fun h=>h
  | step e _ ih =>
   intro hb
   apply ih
   obtain ⟨r,hr,hx⟩:=e
   obtain ⟨j,hj,rfl⟩:=List.mem_iff_getElem.1 hb
   have:=(h.cl j hj hj r hr _ hx).2.2
   simpa using this
 refine ⟨fun b hb=>⟨fun hs=>h.rc b ((h.mem b hb).1 hs),fun hr=>(h.mem b hb).2 (clo a b hr h.st)⟩,fun r hr => ?_⟩
 obtain ⟨j,hj,e⟩:=List.mem_iff_getElem.1 h.st
 simp only [allW,List.all_eq_true,inW,Bool.and_eq_true,decide_eq_true_eq]
 intro x hx
 have:=h.cl j hj hj r (by rw [e];exact hr) x hx
 exact ⟨this.1,this.2.1⟩
theorem bf_bad {r:List Int} (hk:k<r.length) (hx:¬ (0≤r[k]∧r[k]<(n:Int))):allW n r=false:=by
 cases e:allW n r
 ·rfl
 ·simp only [allW,List.all_eq_true,inW,Bool.and_eq_true,decide_eq_true_eq] at e
  exact absurd (e _ (List.getElem_mem hk)) hx
end
end Go.Proofs.Ytoedidbbjnnpnaa.Wm

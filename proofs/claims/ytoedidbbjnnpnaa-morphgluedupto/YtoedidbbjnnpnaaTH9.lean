/-
  A region that draws its order, by relations: what each operation leaves is told by what those leave that it waits for, and stays told while the others run. No condition.
-/
import Derived.Test.YtoedidbbjnnpnaaProg
import Derived.WalkKit
import Derived.ProofKit
import Derived.Orders
namespace Go.Proofs.Ytoedidbbjnnpnaa
open Go.RowKit
set_option linter.unusedSimpArgs false
section
variable {P:Program} {ops:Array Oper} {Q:Exit→Act→World→Prop} {md:Region.Mode}
def putAll:List (Option Tmp)→(Nat→Value)→Nat→Act→Act
 | [],_,_,a=>a
 | d :: ds,vs,k,a=>putAll ds vs (k+1) (a.put d (vs k))
def somes (ds:List (Option Tmp)):List Tmp:=ds.filterMap id
def nodupB:List Nat→Bool
 | []=>true
 | x :: l => !l.contains x && nodupB l
theorem nodupB_nodup:∀ (l:List Nat),nodupB l=true→l.Nodup
 | [],_=>List.nodup_nil
 | x :: l,h=>by
  simp only [nodupB,Bool.and_eq_true,Bool.not_eq_true'] at h
  refine List.nodup_cons.2 ⟨fun hm => ?_,nodupB_nodup l h.2⟩
  have:=h.1
  simp [hm] at this
def relOk (md:Region.Mode) (ops:Array Oper) (dsts:List (Option Tmp)) (needs:List (List Nat)) (n:Nat):Bool :=
 decide (ops.toList.map (·.dst)=dsts) && nodupB (somes dsts) && (somes dsts).all (fun t=>decide (t<n)) &&
 (List.range ops.size).all fun i=>match ops[i]? with
  | some o=>o.after.all (fun e => !Region.binds md e || decide (e.on<i)) && (needs.getD i []).all (fun j=>o.after.any fun e=>Region.binds md e && e.on == j)
  | none=>true
def Got (a:Act) (d:Option Tmp) (v:Value):Prop:=match d with
 | some t=>a.tmps[t]?=some v
 | none=>True
structure Outs (dsts:List (Option Tmp)) (a0 a:Act):Prop where
 df:a.defers=a0.defers
 sz:a.tmps.size=a0.tmps.size
 out:∀ t,t ∉ somes dsts→a.tmps[t]?=a0.tmps[t]?
theorem mem_somes {ds:List (Option Tmp)} {t:Tmp}:t ∈ somes ds ↔ some t ∈ ds:=by simp [somes]
theorem somes_cons_some (t:Tmp) (ds:List (Option Tmp)):somes (some t :: ds)=t :: somes ds:=rfl
theorem put_defers (a:Act) (d:Option Tmp) (v:Value):(a.put d v).defers=a.defers:=by cases d <;> rfl
theorem put_size (a:Act) (d:Option Tmp) (v:Value):(a.put d v).tmps.size=a.tmps.size:=by cases d <;> simp [Act.put]
theorem put_other (a:Act) (d:Option Tmp) (v:Value) {t:Tmp} (h:d≠some t):(a.put d v).tmps[t]?=a.tmps[t]?:=by
 cases d with
 | none=>rfl
 | some d =>
  have hne:d≠t:=fun e=>h (by rw [e])
  simp [Act.put,Array.getElem?_setIfInBounds_ne hne]
theorem put_same (a:Act) {t:Tmp} (v:Value) (h:t<a.tmps.size):(a.put (some t) v).tmps[t]?=some v:=by simp [Act.put,h]
theorem putAll_defers:∀ (ds:List (Option Tmp)) (vs:Nat→Value) (k:Nat) (a:Act),(putAll ds vs k a).defers=a.defers
 | [],_,_,_=>rfl
 | d :: ds,vs,k,a=>(putAll_defers ds vs (k+1) _).trans (put_defers a d _)
theorem putAll_out:∀ (ds:List (Option Tmp)) (vs:Nat→Value) (k:Nat) (a:Act) (t:Tmp),t ∉ somes ds→(putAll ds vs k a).tmps[t]?=a.tmps[t]?
 | [],_,_,_,_,_=>rfl
 | d :: ds,vs,k,a,t,h=>by
  have h1:d≠some t:=fun e=>h (by subst e;rw [somes_cons_some];exact List.mem_cons_self ..)
  have h2:t ∉ somes ds:=fun e=>h (by cases d with | none=>exact e | some x=>rw [somes_cons_some];exact List.mem_cons_of_mem _ e)
  exact (putAll_out ds vs (k+1) _ t h2).trans (put_other a d _ h1)
theorem putAll_in:∀ (ds:List (Option Tmp)) (vs:Nat→Value) (k:Nat) (a:Act),(somes ds).Nodup→∀ (i:Nat) (t:Tmp),ds[i]?=some (some t)→t<a.tmps.size→(putAll ds vs k a).tmps[t]?=some (vs (k+i))
 | [],_,_,_,_,_,_,h,_=>by simp at h
 | d :: ds,vs,k,a,hn,0,t,h,ht=>by
  simp at h
  subst h
  rw [somes_cons_some] at hn
  show (putAll ds vs (k+1) (a.put (some t) (vs k))).tmps[t]?=_
  rw [putAll_out ds vs (k+1) _ t (List.nodup_cons.1 hn).1]
  exact put_same a _ ht
 | d :: ds,vs,k,a,hn,i+1,t,h,ht=>by
  have h':ds[i]?=some (some t):=by simpa using h
  have hn':(somes ds).Nodup:=by cases d with | none=>exact hn | some x=>rw [somes_cons_some] at hn;exact (List.nodup_cons.1 hn).2
  have:=putAll_in ds vs (k+1) (a.put d (vs k)) hn' i t h' (by rw [put_size];exact ht)
  rw [show k+1+i=k+(i+1) by omega] at this
  exact this
theorem somes_inj:∀ (ds:List (Option Tmp)),(somes ds).Nodup→∀ (i j:Nat) (t:Tmp),ds[i]?=some (some t)→ds[j]?=some (some t)→i=j
 | [],_,_,_,_,h,_=>by simp at h
 | d :: ds,hn,0,0,t,_,_=>rfl
 | d :: ds,hn,0,j+1,t,h,h'=>by
  simp at h
  subst h
  rw [somes_cons_some] at hn
  exact absurd (mem_somes.2 (List.mem_of_getElem? (by simpa using h'))) (List.nodup_cons.1 hn).1
 | d :: ds,hn,i+1,0,t,h,h'=>by
  simp at h'
  subst h'
  rw [somes_cons_some] at hn
  exact absurd (mem_somes.2 (List.mem_of_getElem? (by simpa using h))) (List.nodup_cons.1 hn).1
 | d :: ds,hn,i+1,j+1,t,h,h'=>by
  have hn':(somes ds).Nodup:=by cases d with | none=>exact hn | some x=>rw [somes_cons_some] at hn;exact (List.nodup_cons.1 hn).2
  rw [somes_inj ds hn' i j t (by simpa using h) (by simpa using h')]
theorem countP_set {l:Array Bool} {i:Nat} {n:Nat} (hi:i<n) (hl:l.size=n) (h:l.getD i true=false) :
 ((List.range n).countP fun j => !((l.setIfInBounds i true).getD j false))+1≤(List.range n).countP fun j => !(l.getD j false):=by
 have key:∀ (L:List Nat),L.Nodup→(L.countP fun j => !((l.setIfInBounds i true).getD j false))+(if i ∈ L then 1 else 0)≤L.countP fun j => !(l.getD j false):=by
  intro L
  induction L with
  | nil=>intro _;simp
  | cons x L ih =>
   intro hn
   have hx:=List.nodup_cons.1 hn
   have ih':=ih hx.2
   rw [List.countP_cons,List.countP_cons]
   by_cases e:x=i
   ·subst e
    have h1:(l.setIfInBounds x true).getD x false=true:=by simp [hl,hi]
    have h0:l.getD x false=false:=by
     have hx':x<l.size:=by omega
     simp [hx'] at h ⊢
     exact h
    rw [if_neg hx.1] at ih'
    rw [h1,h0]
    simp only [Bool.not_true,Bool.false_eq_true,if_false,List.mem_cons_self,if_true,Bool.not_false]
    omega
   ·have h1:(l.setIfInBounds i true).getD x false=l.getD x false:=getD_set_ne false (fun e'=>e e'.symm)
    rw [h1]
    have:(i ∈ x :: L) ↔ i ∈ L:=⟨fun h'=>by rcases List.mem_cons.1 h' with h' | h';exact absurd h'.symm e;exact h',fun h'=>List.mem_cons_of_mem _ h'⟩
    simp only [this]
    omega
 have:=key (List.range n) List.nodup_range
 rw [if_pos (List.mem_range.2 hi)] at this
 exact this
def AllLt:Nat→(Nat→Prop)→Prop
 | 0,_=>True
 | n+1,p=>AllLt n p∧p n
theorem allLt:∀ (n:Nat) {p:Nat→Prop},AllLt n p→∀ i,i<n→p i
 | 0,_,_,i,h=>absurd h (Nat.not_lt_zero i)
 | n+1,p,h,i,hi=>by
  by_cases e:i=n
  ·subst e;exact h.2
  ·exact allLt n h.1 i (by omega)
/-! ### One operation -/
section
variable {i:Nat} {o:Oper} {a:Act} {w:World} {K:Act→World→Prop}
theorem relVal (ho:ops[i]?=some o) (v:Value) (w':World) (hg:o.guard=none) (hrun:(execOp a.eval o).run P w=.ok (.value v) w') (hK:K (a.put o.dst v) w'):wpOp P ops Q i K a w:=by
 unfold wpOp
 simp only [ho]
 have hw:Region.wanted o (yielded ops a.tmps)=true:=by simp [Region.wanted,hg]
 rw [if_pos hw]
 left
 unfold Oper.wp
 rw [hrun,Oper.upon_value]
 exact hK
theorem wanted_is {j t:Nat} {b want:Bool} (hg:o.guard=some (j,want)) (hj:(ops[j]?).bind (·.dst)=some t) (ht:a.tmps[t]?=some (.bool b)):Region.wanted o (yielded ops a.tmps)=(b == want):=by
 have hy:yielded ops a.tmps j=some b:=by
  unfold yielded
  rw [hj]
  show (match a.tmps[t]? with | some (.bool b)=>some b | _=>none)=some b
  rw [ht]
 simp only [Region.wanted,hg,hy]
 cases b <;> cases want <;> rfl
theorem relNo (ho:ops[i]?=some o) (hw:Region.wanted o (yielded ops a.tmps)=false) (hK:K (a.put o.dst undef) w):wpOp P ops Q i K a w:=by
 unfold wpOp
 simp only [ho]
 rw [if_neg (by rw [hw];simp)]
 exact hK
theorem relValW (ho:ops[i]?=some o) (v:Value) (w':World) (hw:Region.wanted o (yielded ops a.tmps)=true) (hrun:(execOp a.eval o).run P w=.ok (.value v) w') (hK:K (a.put o.dst v) w'):wpOp P ops Q i K a w:=by
 unfold wpOp
 simp only [ho]
 rw [if_pos hw]
 left
 unfold Oper.wp
 rw [hrun,Oper.upon_value]
 exact hK
theorem relCallW (ho:ops[i]?=some o) (hw:Region.wanted o (yielded ops a.tmps)=true) (f:FuncId) (x:Operand) (xs:List Operand) (ts:Array TypeId) (hop:o.op=Op.call { callee:=Callee.value x,args:=xs.toArray,argTypes:=ts }) (vs cs:List Value) (hx:a.eval x=.func (.func f) #[] cs.toArray) (hv:xs.map a.eval=vs)
 (hcf:∀ vs w,(callFunc f vs).run P w=.ok (.enter f vs) w) (h:Calls P f (vs ++ cs).toArray w fun e w'=>∃ v,e=.returned v∧K (a.put o.dst v) w'):wpOp P ops Q i K a w:=by
 subst hv
 unfold wpOp
 simp only [ho]
 rw [if_pos hw]
 left
 have hrun:(execOp a.eval o).run P w=.ok (.enter f (xs.map a.eval ++ cs).toArray) w:=by
  simp [execOp,hop,resolve,invoke,Deferred.ofValue,hx,hcf]
 unfold Oper.wp
 rw [hrun,Oper.upon_enter]
 refine h.mono ?_
 rintro e w' ⟨v,rfl,hK⟩
 exact hK
theorem relSkip (ho:ops[i]?=some o) (w':World) (hg:o.guard=none) (hrun:(execOp a.eval o).run P w=.ok .skip w') (hK:K (a.put o.dst undef) w'):wpOp P ops Q i K a w:=by
 unfold wpOp
 simp only [ho]
 have hw:Region.wanted o (yielded ops a.tmps)=true:=by simp [Region.wanted,hg]
 rw [if_pos hw]
 left
 unfold Oper.wp
 rw [hrun,Oper.upon_skip]
 exact hK
theorem relCallF (ho:ops[i]?=some o) (hg:o.guard=none) (f:FuncId) (xs:List Operand) (ts:Array TypeId) (hop:o.op=Op.call { callee:=Callee.value (Operand.func f),args:=xs.toArray,argTypes:=ts }) (vs:List Value) (hv:xs.map a.eval=vs)
 (hcf:∀ vs w,(callFunc f vs).run P w=.ok (.enter f vs) w) (h:Calls P f vs.toArray w fun e w'=>∃ v,e=.returned v∧K (a.put o.dst v) w'):wpOp P ops Q i K a w:=by
 subst hv
 unfold wpOp
 simp only [ho]
 have hw:Region.wanted o (yielded ops a.tmps)=true:=by simp [Region.wanted,hg]
 rw [if_pos hw]
 left
 have hrun:(execOp a.eval o).run P w=.ok (.enter f (xs.map a.eval).toArray) w:=by
  simp [execOp,hop,resolve,invoke,Deferred.ofValue,Act.eval,hcf]
 unfold Oper.wp
 rw [hrun,Oper.upon_enter]
 refine h.mono ?_
 rintro e w' ⟨v,rfl,hK⟩
 exact hK
end
end
end Go.Proofs.Ytoedidbbjnnpnaa
/-
  A region that draws its order, by relations, where what an operation waits for is told with all that that waits for. No condition.
-/
namespace Go.Proofs.Ytoedidbbjnnpnaa
open Go.RowKit
set_option linter.unusedSimpArgs false
section
variable {P:Program} {ops:Array Oper} {Q:Exit→Act→World→Prop} {md:Region.Mode}
def depOk (needs deps:List (List Nat)) (n:Nat):Bool:=(List.range n).all fun i=>(deps.getD i []).all fun k=>(needs.getD i []).contains k || (needs.getD i []).any fun m=>(deps.getD m []).contains k
theorem depOk_is {needs deps:List (List Nat)} {n:Nat} (h:depOk needs deps n=true):∀ i,i<n→∀ k ∈ deps.getD i [],k ∈ needs.getD i []∨∃ m ∈ needs.getD i [],k ∈ deps.getD m []:=by
 intro i hi k hk
 unfold depOk at h
 have h1:=List.all_eq_true.1 (List.all_eq_true.1 h i (List.mem_range.2 hi)) k hk
 rw [Bool.or_eq_true] at h1
 rcases h1 with h1 | h1
 ·exact Or.inl (by simpa using h1)
 ·obtain ⟨m,hm,h2⟩:=List.any_eq_true.1 h1
  exact Or.inr ⟨m,hm,by simpa using h2⟩
structure RInvD (dsts:List (Option Tmp)) (deps:List (List Nat)) (a0:Act) (R:Nat→Value→World→Prop) (S:(Nat→Bool)→World→Prop) (listed:Array Bool) (a:Act) (w:World):Prop where
 s:S (fun j=>listed.getD j false) w
 shut:∀ j,listed.getD j false=true→∀ k ∈ deps.getD j [],listed.getD k false=true
 out:Outs dsts a0 a
 got:∀ j,listed.getD j false=true→∃ v,Got a (dsts.getD j none) v∧R j v w
theorem wpAny_relD_go {a0:Act} (dsts:List (Option Tmp)) (needs deps:List (List Nat)) (hc:relOk md ops dsts needs a0.tmps.size=true) (hdp:depOk needs deps ops.size=true) (R:Nat→Value→World→Prop) (S:(Nat→Bool)→World→Prop) (le:Nat→World→World→Prop)
 (hle:∀ i j v w w',i≠j→i ∉ deps.getD j []→le i w w'→R j v w→R j v w')
 (step:∀ i,i<ops.size→∀ (done:Nat→Bool) a w,S done w→done i=false→(∀ j ∈ needs.getD i [],done j=true)→(∀ j,i ∈ deps.getD j []→done j=false)→Outs dsts a0 a→(∀ j ∈ needs.getD i [],∃ v,Got a (dsts.getD j none) v∧R j v w) →
  wpOp P ops Q i (fun a' w'=>∃ v,a'=a.put (dsts.getD i none) v∧R i v w'∧S (fun j=>j == i || done j) w'∧le i w w') a w)
 (fin:∀ (vs:Nat→Value) (done:Nat→Bool) (w:World),(∀ i,i<ops.size→done i=true)→S done w→(∀ i,i<ops.size→R i (vs i) w)→Q .normal (putAll dsts vs 0 a0) w) :
 ∀ (fuel:Nat) (listed:Array Bool) (a:Act) (w:World),listed.size=ops.size→((List.range ops.size).countP fun j => !(listed.getD j false))≤fuel→RInvD dsts deps a0 R S listed a w→wpAny P md ops Q fuel listed a w:=by
 simp only [relOk,Bool.and_eq_true,decide_eq_true_eq,List.all_eq_true,List.mem_range] at hc
 obtain ⟨⟨⟨hd,hnd⟩,hlt⟩,hrest⟩:=hc
 have hdp:=depOk_is hdp
 have hnd:=nodupB_nodup _ hnd
 have hdl:dsts.length=ops.size:=by rw [← hd];simp
 have hdi:∀ i o,ops[i]?=some o→dsts.getD i none=o.dst:=fun i o ho=>by
  rw [← hd]
  simp [List.getD,ho]
 have hdsize:∀ i t,dsts[i]?=some (some t)→t<a0.tmps.size:=fun i t h=>hlt t (mem_somes.2 (List.mem_of_getElem? h))
 have hfin:∀ listed a w,listed.size=ops.size→RInvD dsts deps a0 R S listed a w→(∀ j,j<ops.size→listed.getD j false=true)→Q .normal a w:=by
  intro listed a w hls hI hall
  have hch:∀ j,∃ v,j<ops.size→Got a (dsts.getD j none) v∧R j v w:=fun j=>by
   by_cases hj:j<ops.size
   ·obtain ⟨v,hv⟩:=hI.got j (hall j hj)
    exact ⟨v,fun _=>hv⟩
   ·exact ⟨undef,fun h=>absurd h hj⟩
  obtain ⟨vs,hvs⟩:=Classical.axiomOfChoice hch
  have:=fin vs _ w hall hI.s (fun i hi=>(hvs i hi).2)
  have e:a=putAll dsts vs 0 a0:=by
   have e1:a.tmps=(putAll dsts vs 0 a0).tmps:=by
    apply Array.ext_getElem?
    intro t
    by_cases ht:t ∈ somes dsts
    ·obtain ⟨i,hi⟩:=List.getElem?_of_mem (mem_somes.1 ht)
     have hil:i<ops.size:=by rw [← hdl];exact (List.getElem?_eq_some_iff.1 hi).1
     rw [putAll_in dsts vs 0 a0 hnd i t hi (hdsize i t hi),Nat.zero_add]
     have hg:=(hvs i hil).1
     have hgd:dsts.getD i none=some t:=by simp [List.getD,hi]
     rw [hgd] at hg
     exact hg
    ·rw [hI.out.out t ht,putAll_out dsts vs 0 a0 t ht]
   have e2:a.defers=(putAll dsts vs 0 a0).defers:=by rw [putAll_defers,hI.out.df]
   cases a
   cases hp:putAll dsts vs 0 a0
   rw [hp] at e1 e2
   simp at e1 e2
   rw [e1,e2]
  rw [e]
  exact this
 have hready:∀ listed:Array Bool,listed.size=ops.size→Region.ready md ops listed=[]→∀ j,j<ops.size→listed.getD j false=true:=by
  intro listed hls hr j
  induction j using Nat.strongRecOn with
  | ind j ih =>
   intro hj
   cases hb:listed.getD j false with
   | true=>rfl
   | false =>
    exfalso
    have hjl:j<listed.size:=by omega
    obtain ⟨o,ho⟩:∃ o,ops[j]?=some o:=⟨ops[j],by simp [hj]⟩
    have hm:j ∈ Region.ready md ops listed:=mem_ready.2 ⟨by simp [hjl] at hb ⊢;exact hb,o,ho,fun e he hbd=>by
     have h1:=hrest j hj
     rw [ho] at h1
     simp only [Bool.and_eq_true,Array.all_eq_true_iff_forall_mem] at h1
     have h2:=h1.1 e he
     simp only [hbd,Bool.not_true,Bool.false_or,decide_eq_true_eq] at h2
     exact ih e.on h2 (by omega)⟩
    rw [hr] at hm
    cases hm
 intro fuel
 induction fuel with
 | zero =>
  intro listed a w hls hcnt hI
  have hall:∀ j,j<ops.size→listed.getD j false=true:=fun j hj=>by
   have h0:=List.countP_eq_zero.1 (Nat.le_zero.1 hcnt) j (List.mem_range.2 hj)
   simpa using h0
  refine ⟨?_,hfin listed a w hls hI hall⟩
  apply List.eq_nil_iff_forall_not_mem.2
  intro j hj
  obtain ⟨h1,o,ho,_⟩:=mem_ready.1 hj
  have hj':j<ops.size:=(Array.getElem?_eq_some_iff.1 ho).1
  have h2:=hall j hj'
  have hjl:j<listed.size:=by omega
  simp [hjl] at h1 h2
  rw [h1] at h2
  cases h2
 | succ fuel ih =>
  intro listed a w hls hcnt hI
  refine ⟨fun hr=>hfin listed a w hls hI (hready listed hls hr),fun i hi => ?_⟩
  obtain ⟨h1,o,ho,hb⟩:=mem_ready.1 hi
  have hi':i<ops.size:=(Array.getElem?_eq_some_iff.1 ho).1
  have hneed:∀ j ∈ needs.getD i [],∃ v,Got a (dsts.getD j none) v∧R j v w:=fun j hj=>by
   have h3:=hrest i hi'
   rw [ho] at h3
   simp only [Bool.and_eq_true,List.all_eq_true] at h3
   have h4:=h3.2 j hj
   rw [Array.any_eq_true'] at h4
   obtain ⟨e,he,hbe⟩:=h4
   simp only [Bool.and_eq_true,beq_iff_eq] at hbe
   have:=hb e he hbe.1
   rw [hbe.2] at this
   exact hI.got j this
  have hil0:i<listed.size:=by omega
  have hi0:listed.getD i false=false:=by simp [hil0] at h1 ⊢;exact h1
  have hnd2:∀ j ∈ needs.getD i [],listed.getD j false=true:=fun j hj=>by
   have h3:=hrest i hi'
   rw [ho] at h3
   simp only [Bool.and_eq_true,List.all_eq_true] at h3
   have h4:=h3.2 j hj
   rw [Array.any_eq_true'] at h4
   obtain ⟨e,he,hbe⟩:=h4
   simp only [Bool.and_eq_true,beq_iff_eq] at hbe
   have:=hb e he hbe.1
   rw [hbe.2] at this
   exact this
  have hdn:(fun j=>(listed.setIfInBounds i true).getD j false)=fun j=>j == i || listed.getD j false:=by
   funext j
   by_cases e:j=i
   ·subst e
    simp [hil0]
   ·rw [getD_set_ne false (fun e'=>e e'.symm)]
    simp [e]
  have hno:∀ j,i ∈ deps.getD j []→listed.getD j false=false:=fun j hj=>by
   cases hb2:listed.getD j false with
   | false=>rfl
   | true =>
    have:=hI.shut j hb2 i hj
    rw [hi0] at this
    cases this
  refine wpOp_mono (fun a' w' h => ?_) (step i hi' (fun j=>listed.getD j false) a w hI.s hi0 hnd2 hno hI.out hneed)
  obtain ⟨v,rfl,hR,hS,hl⟩:=h
  have hdo:=hdi i o ho
  refine ih _ _ _ (by simp [hls]) ?_ ⟨by rw [hdn];exact hS,fun j hj k hk => ?_,⟨(put_defers _ _ _).trans hI.out.df,(put_size _ _ _).trans hI.out.sz,fun t ht => ?_⟩,fun j hj => ?_⟩
  ·have:=countP_set hi' hls h1
   omega
  ·by_cases e:j=i
   ·subst e
    rcases hdp j hi' k hk with h5 | ⟨m,h5,h6⟩
    ·exact getD_set_true (hnd2 k h5)
    ·exact getD_set_true (hI.shut m (hnd2 m h5) k h6)
   ·rw [getD_set_ne false (fun e'=>e e'.symm)] at hj
    exact getD_set_true (hI.shut j hj k hk)
  ·rw [put_other,hI.out.out t ht]
   intro e
   refine ht (mem_somes.2 ?_)
   rw [← e]
   have hil:i<dsts.length:=by omega
   rw [show dsts.getD i none=dsts[i] by simp [List.getD,hil]]
   exact List.getElem_mem hil
  ·by_cases e:j=i
   ·subst e
    refine ⟨v,?_,hR⟩
    cases hd':dsts.getD j none with
    | none=>trivial
    | some t =>
     have hjt:dsts[j]?=some (some t):=by
      have hil:j<dsts.length:=by omega
      simp [List.getD,hil] at hd'
      simp [hil,hd']
     exact put_same _ _ (by rw [hI.out.sz];exact hdsize j t hjt)
   ·rw [getD_set_ne false (fun e'=>e e'.symm)] at hj
    obtain ⟨u,hu,hRu⟩:=hI.got j hj
    refine ⟨u,?_,hle i j u w w' (fun e'=>e e'.symm) (fun hm=>by rw [hno j hm] at hj;cases hj) hl hRu⟩
    cases hd':dsts.getD j none with
    | none=>trivial
    | some t =>
     rw [hd'] at hu
     have hjt:dsts[j]?=some (some t):=by
      rcases Nat.lt_or_ge j dsts.length with h | h
      ·simp [List.getD,h] at hd'
       simp [h,hd']
      ·simp [List.getD,List.getElem?_eq_none h] at hd'
     show (a.put (dsts.getD i none) v).tmps[t]?=some u
     rw [put_other]
     ·exact hu
     ·intro e2
      have hit:dsts[i]?=some (some t):=by
       have hil:i<dsts.length:=by omega
       simp [List.getD,hil] at e2
       simp [hil,e2]
      exact e (somes_inj dsts hnd j i t hjt hit)
theorem wp_region_dep {id:Nat} {a0:Act} {w:World} (hm:P.follows .mixedOrders=true) (dsts:List (Option Tmp)) (needs deps:List (List Nat)) (hc:relOk .any ops dsts needs a0.tmps.size=true) (hdp:depOk needs deps ops.size=true) (R:Nat→Value→World→Prop) (S:(Nat→Bool)→World→Prop) (le:Nat→World→World→Prop)
 (hle:∀ i j v w w',i≠j→i ∉ deps.getD j []→le i w w'→R j v w→R j v w') (h0:S (fun _=>false) w.drew)
 (step:∀ i,i<ops.size→∀ (done:Nat→Bool) a w,S done w→done i=false→(∀ j ∈ needs.getD i [],done j=true)→(∀ j,i ∈ deps.getD j []→done j=false)→Outs dsts a0 a→(∀ j ∈ needs.getD i [],∃ v,Got a (dsts.getD j none) v∧R j v w) →
  wpOp P ops Q i (fun a' w'=>∃ v,a'=a.put (dsts.getD i none) v∧R i v w'∧S (fun j=>j == i || done j) w'∧le i w w') a w)
 (fin:∀ (vs:Nat→Value) (done:Nat→Bool) (w:World),(∀ i,i<ops.size→done i=true)→S done w→(∀ i,i<ops.size→R i (vs i) w)→Q .normal (putAll dsts vs 0 a0) w):(Code.region id ops true).wp P Q a0 w:=by
 have hf:(fun j=>(Array.replicate ops.size false).getD j false)=fun _=>false:=by
  funext j
  rcases Nat.lt_or_ge j ops.size with h | h
  ·simp [h]
  ·simp [h]
 refine wp_region_any hm (wpAny_relD_go dsts needs deps hc hdp R S le hle step fin _ _ _ _ (by simp) ?_ ⟨by rw [hf];exact h0,fun j hj => ?_,⟨rfl,rfl,fun _ _=>rfl⟩,fun j hj => ?_⟩)
 ·refine Nat.le_trans List.countP_le_length ?_
  simp
 ·rw [show (Array.replicate ops.size false).getD j false=false from congrFun hf j] at hj
  cases hj
 ·rcases Nat.lt_or_ge j ops.size with h | h
  ·simp [h] at hj
  ·simp [h] at hj
end
end Go.Proofs.Ytoedidbbjnnpnaa
/-
  A region that draws its order and holds one call for which all else waits, or that waits for it. No condition.
-/
namespace Go.Proofs.Ytoedidbbjnnpnaa
open Go.RowKit
set_option linter.unusedSimpArgs false
section
variable {P:Program} {ops:Array Oper} {Q:Exit→Act→World→Prop}
theorem wp_region_one {id:Nat} {a0:Act} {w:World} (hm:P.follows .mixedOrders=true) (c:Nat) (dsts:List (Option Tmp)) (needs deps:List (List Nat)) (hc:relOk .any ops dsts needs a0.tmps.size=true) (hdp:depOk needs deps ops.size=true) (V:Nat→Value→World→Prop)
 (hfree:∀ j v w1 w2,j≠c→c ∉ deps.getD j []→V j v w1→V j v w2)
 (step:∀ i,i<ops.size→∀ a w1,((i=c∨i ∈ deps.getD c [])→w1=w.drew)→Outs dsts a0 a→(∀ j ∈ needs.getD i [],∃ v,Got a (dsts.getD j none) v∧V j v w1) →
  wpOp P ops Q i (fun a' w'=>∃ v,a'=a.put (dsts.getD i none) v∧V i v w'∧(i≠c→w'=w1)) a w1)
 (fin:∀ (vs:Nat→Value) (w1:World),(∀ i,i<ops.size→V i (vs i) w1)→Q .normal (putAll dsts vs 0 a0) w1):(Code.region id ops true).wp P Q a0 w:=by
 refine wp_region_dep hm dsts needs deps hc hdp V (fun done w1=>done c=false→w1=w.drew) (fun i w1 w2=>i≠c→w2=w1) ?_ (fun _=>rfl) ?_ ?_
 ·intro i j v w1 w2 hij hn hl hV
  by_cases e:i=c
  ·subst e
   exact hfree j v w1 w2 (fun e=>hij e.symm) hn hV
  ·rw [hl e]
   exact hV
 ·intro i hi done a w1 hS h0 hd hno hO hN
  refine wpOp_mono (fun a' w' h => ?_) (step i hi a w1 (fun h=>hS ?_) hO hN)
  ·obtain ⟨v,h1,h2,h3⟩:=h
   refine ⟨v,h1,h2,fun hdone => ?_,h3⟩
   simp only [Bool.or_eq_false_iff,beq_eq_false_iff_ne] at hdone
   rw [h3 (fun e=>hdone.1 e.symm)]
   exact hS hdone.2
  ·rcases h with rfl | h
   ·exact h0
   ·exact hno c h
 ·intro vs done w1 _ _ hV
  exact fin vs w1 hV
end
end Go.Proofs.Ytoedidbbjnnpnaa

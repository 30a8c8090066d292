/-
  Function values that tell something of numbers; IndexFunc, ContainsFunc, chosen, isRoot, areWorlds. No condition.
-/
import Derived.Test.YtoedidbbjnnpnaaTH2
import Derived.Laws.AppendOwn
namespace Go.Proofs.Ytoedidbbjnnpnaa.Wm
open Go.RowKit Go.Maps
set_option linter.unusedSimpArgs false
def Cf (f:FuncId):Prop:=∀ (vs:Array Value) (w:World),(callFunc f vs).run Try.prog w=.ok (.enter f vs) w
def Prd (w:World) (L:Nat) (D:Int→Prop) (fv:Value) (p:Int→Bool):Prop :=
 ∃ (f:FuncId) (cs:List Value),fv=.func (.func f) #[] cs.toArray∧Cf f∧∀ (W:World) (x:Int),Below L w W→D x→Calls Try.prog f ([Value.int .i64 x] ++ cs).toArray W fun e w'=>e=.returned (.bool (p x))∧Below W.heap.size W w'
def Ord (w:World) (L n:Nat) (fv:Value) (M:Nat→Nat→Bool):Prop :=
 ∃ (f:FuncId) (cs:List Value),fv=.func (.func f) #[] cs.toArray∧Cf f∧∀ (W:World) (x y:Nat),Below L w W→x<n→y<n→Calls Try.prog f ([Value.int .i64 (x:Int),Value.int .i64 (y:Int)] ++ cs).toArray W fun e w'=>e=.returned (.bool (M x y))∧Below W.heap.size W w'
theorem Prd.later {w w':World} {L L':Nat} {D:Int→Prop} {fv:Value} {p:Int→Bool} (h:Prd w L D fv p) (hb:Below L w w') (hL:L≤L'):Prd w' L' D fv p:=by
 obtain ⟨f,cs,h1,h2,h3⟩:=h
 exact ⟨f,cs,h1,h2,fun W x hW hx=>h3 W x (hb.trans (hW.mono hL)) hx⟩
theorem Ord.later {w w':World} {L L' n:Nat} {fv:Value} {M:Nat→Nat→Bool} (h:Ord w L n fv M) (hb:Below L w w') (hL:L≤L'):Ord w' L' n fv M:=by
 obtain ⟨f,cs,h1,h2,h3⟩:=h
 exact ⟨f,cs,h1,h2,fun W x y hW hx hy=>h3 W x y (hb.trans (hW.mono hL)) hx hy⟩
section
variable {ops:Array Oper} {rest:List Oper} {o:Oper} {a:Act} {Q:Exit→Act→World→Prop} {w:World}
theorem wpList_callV (hg:Region.wanted o (yielded ops a.tmps)=true) (f:FuncId) (x:Operand) (xs:List Operand) (ts:Array TypeId) (hop:o.op=Op.call { callee:=Callee.value x,args:=xs.toArray,argTypes:=ts }) (vs cs:List Value) (hx:a.eval x=.func (.func f) #[] cs.toArray) (hv:xs.map a.eval=vs)
 (hcf:Cf f) (h:Calls Try.prog f (vs ++ cs).toArray w fun e w'=>∃ v,e=.returned v∧wpList Try.prog ops Q rest (a.put o.dst v) w'):wpList Try.prog ops Q (o :: rest) a w:=by
 subst hv
 refine wpList_want hg fun K' hK' => ?_
 have hrun:(execOp a.eval o).run Try.prog w=.ok (.enter f (xs.map a.eval ++ cs).toArray) w:=by
  simp [execOp,hop,resolve,invoke,Deferred.ofValue,hx,show ∀ vs w,_ from hcf]
 unfold Oper.wp
 rw [hrun,Oper.upon_enter]
 refine h.mono ?_
 rintro e w' ⟨v,rfl,hK⟩
 exact hK' _ _ hK
end
theorem infoI:(Try.prog.info? 3).map (fun i=>(i.zero,i.size,i.bytes))=some (some (.int .i64 0),1,8):=by kernel_rfl
def intsV (l:List Nat):List Value:=l.map fun n:Nat=>Value.int .i64 (n:Int)
def OwnI (base:Nat) (w:World) (v:Value) (l:List Nat):Prop:=w.ownsRow base 3 1 v l.length (intsV l)
theorem own_later {base n size:Nat} {e:TypeId} {w w':World} {v:Value} {xs:List Value} (h:w.ownsRow base e size v n xs) (hb:Below w.heap.size w w'):w'.ownsRow base e size v n xs:=by
 refine ⟨h.1,?_⟩
 rcases h.2 with h2 | ⟨g,cap,cur,rfl,hg,hh,r⟩
 ·exact Or.inl h2
 ·exact Or.inr ⟨g,cap,cur,rfl,hg,(hb.block g (lt_of_block hh)).trans hh,r⟩
theorem own_base {b b' n size:Nat} {e:TypeId} {w:World} {v:Value} {xs:List Value} (h:w.ownsRow b e size v n xs) (hb:b'≤b):w.ownsRow b' e size v n xs:=by
 refine ⟨h.1,?_⟩
 rcases h.2 with h2 | ⟨g,cap,cur,rfl,hg,hh,r⟩
 ·exact Or.inl h2
 ·exact Or.inr ⟨g,cap,cur,rfl,Nat.le_trans hb hg,hh,r⟩
theorem own_form {b n size:Nat} {e:TypeId} {w:World} {v:Value} {xs:List Value} (h:w.ownsRow b e size v n xs):∃ p c,v=.slice p n c:=by
 rcases h.2 with ⟨rfl,h0⟩ | ⟨g,cap,cur,rfl,_⟩
 ·exact ⟨_,_,by rw [h0]⟩
 ·exact ⟨_,_,rfl⟩
theorem OwnI.later {base:Nat} {w w':World} {v:Value} {l:List Nat} (h:OwnI base w v l) (hb:Below w.heap.size w w'):OwnI base w' v l:=own_later h hb
theorem OwnI.base {b b':Nat} {w:World} {v:Value} {l:List Nat} (h:OwnI b w v l) (hb:b'≤b):OwnI b' w v l:=own_base h hb
theorem OwnI.slice {base:Nat} {w:World} {v:Value} {l:List Nat} (h:OwnI base w v l):∃ p c,v=.slice p l.length c:=own_form h
theorem OwnI.isI {base:Nat} {w:World} {v:Value} {l:List Nat} (h:OwnI base w v l):IsI w w.heap.size v (l.map fun n:Nat=>(n:Int)):=by
 rcases h.2 with ⟨rfl,h0⟩ | ⟨g,cap,cur,rfl,hg,hh,h1,h2,h3,h4⟩
 ·obtain rfl:l=[]:=List.eq_nil_of_length_eq_zero h0
  exact ⟨_,_,rfl,fun h=>absurd h (by simp)⟩
 ·refine ⟨_,_,by rw [List.length_map],fun h0=>⟨g,0,lt_of_block hh,rfl,fun k hk => ?_⟩⟩
  have hk':k<l.length:=by simpa using hk
  have hc:=h.cellAt k (by omega)
  rw [Nat.zero_add]
  refine ⟨.int .i64 (l[k]:Int),hc.trans (by simp [intsV,hk']),?_⟩
  rw [List.getElem_map]
  rfl
set_option maxRecDepth 100000 in
set_option maxHeartbeats 2000000 in
theorem indexFunc_any (w:World) {L Ls:Nat} {D:Int→Prop} {v fv:Value} {p:Int→Bool} {l:List Int} (hP:Prd w L D fv p) (hl:IsI w Ls v l) (hD:∀ x ∈ l,D x) (hLs:Ls≤w.heap.size) (hL:L≤w.heap.size) (hlen:l.length≤140737488351232) :
 Calls Try.prog 73 #[v,fv] w fun e w'=>(∃ r:Int,e=.returned (.int .i64 r)∧((r = -1∧∀ x ∈ l,p x=false)∨∃ (i:Nat) (hi:i<l.length),r=(i:Int)∧p l[i]=true∧∀ (j:Nat) (hj:j<i),p (l[j]'(by omega))=false))∧Below w.heap.size w w':=by
 obtain ⟨f,cs,rfl,hcf,hc⟩:=hP
 obtain ⟨q,c,rfl,hat⟩:=hl
 have HCq:=show Hid (∀ (W:World) (x:Int),Below w.heap.size w W→D x→Calls Try.prog f ([Value.int .i64 x] ++ cs).toArray W fun e w'=>e=.returned (.bool (p x))∧Below W.heap.size W w') from fun W x hW hx=>hc W x (hW.mono hL) hx
 have HA:=show Hid (0<l.length→∃ b o,b<Ls∧q=some ⟨b,o,none⟩∧∀ (j:Nat) (hj:j<l.length),∃ x,w.cell? ⟨b,o+j,none⟩=some x∧isI l[j] x) from hat
 have HD:=show Hid (∀ x ∈ l,D x) from hD
 have HCF:=show Hid (Cf f) from hcf
 clear hc hat hD hcf
 go_enter Try.func73,Try.ntmps73
 go_wp2_with fail
 go_loopw [5,8] (fun _ i wr=>∃ k:Nat,k≤l.length∧i=.int .i64 (k:Int)∧Hid (Below w.heap.size w wr∧∀ (j:Nat) (hj:j<l.length),j<k→p l[j]=false)) (fun _ i _=>l.length - (intOf i).toNat)
 case atStart=>exact ⟨0,Nat.zero_le _,rfl,Below.refl _ _,fun j _ h=>absurd h (Nat.not_lt_zero _)⟩
 case round =>
  obtain ⟨k,hk,rfl,HI⟩:=hrel
  by_cases hlt:k<l.length
  ·obtain ⟨b,o,hb,rfl,hat⟩:=HA.out (by omega)
   obtain ⟨x,hx,rfl⟩:=hat k hlt
   have hc:wr.cell? ⟨b,o+k,none⟩=some (.int .i64 l[k]):=(HI.out.1.cell (p:=⟨b,o+k,none⟩) (by show b<_;omega)).trans hx
   have KX:=show Hid _ from HCq.out wr l[k] HI.out.1 (HD.out _ (List.getElem_mem hlt))
   have HP:=show Hid (∀ y,y=p l[k]→(y=false→∀ (j:Nat) (hj:j<l.length),j<k+1→p l[j]=false)∧(y=true→∃ (i:Nat) (hi:i<l.length),(k:Int)=(i:Int)∧p l[i]=true∧∀ (j:Nat) (hj:j<i),p (l[j]'(by omega))=false)) from fun y hy=>⟨fun h j hj hk=>by
    by_cases e:j=k
    ·subst e;rw [← hy];exact h
    ·exact HI.out.2 j hj (by omega),fun h=>⟨k,hlt,rfl,by rw [← hy];exact h,fun j hj=>HI.out.2 j (by omega) hj⟩⟩
   have HB:=show Hid (Below w.heap.size w wr) from HI.out.1
   have hki:(k:Int)<(l.length:Int):=by omega
   clear hat hx HA HCq HI
   generalize hgx:l[k]=x at *
   clear hgx
   go_wp2_with (refine wpList_callV rfl f _ [.tmp 15] _ rfl [.int .i64 x] cs rfl rfl HCF.out ?_)
   refine Calls.mono KX.out ?_
   rintro e w2 ⟨rfl,hb2⟩
   refine ⟨_,rfl,?_⟩
   have HB2:=show Hid (Below w.heap.size w w2) from HB.out.trans (hb2.mono HB.out.size)
   have HP2:=show Hid _ from HP.out (p x) rfl
   clear hb2 HP HB KX
   generalize p x=y at *
   cases y
   ·go_wp2_with fail
    go_roundw
    case rel=>exact ⟨k+1,by omega,val_int (by omega),HB2.out,HP2.out.1 (by first | rfl | trivial)⟩
    case measure=>(simp only [intOf];omega)
   ·go_wp2_with fail
    go_ret
    obtain ⟨ii,hii,h1,h2⟩:=HP2.out.2 (by first | rfl | trivial)
    exact ⟨⟨_,rfl,Or.inr ⟨ii,h1,hii,h2⟩⟩,HB2.out⟩
  ·go_wp2_with fail
   go_ret
   exact ⟨⟨-1,rfl,Or.inl ⟨rfl,fun x hx=>by
    obtain ⟨j,hj,rfl⟩:=List.mem_iff_getElem.1 hx
    exact HI.out.2 j hj (by omega)⟩⟩,HI.out.1⟩
set_option maxRecDepth 100000 in
set_option maxHeartbeats 1000000 in
theorem containsFunc_any (w:World) {L Ls:Nat} {D:Int→Prop} {v fv:Value} {p:Int→Bool} {l:List Int} (hP:Prd w L D fv p) (hl:IsI w Ls v l) (hD:∀ x ∈ l,D x) (hLs:Ls≤w.heap.size) (hL:L≤w.heap.size) (hlen:l.length≤140737488351232) :
 Calls Try.prog 49 #[v,fv] w fun e w'=>e=.returned (.bool (l.any p))∧Below w.heap.size w w':=by
 have K:=show Hid _ from indexFunc_any w hP hl hD hLs hL hlen
 obtain ⟨f,cs,rfl,-,-⟩:=hP
 obtain ⟨q,c,rfl,-⟩:=hl
 clear hD
 go_enter Try.func49,Try.ntmps49
 go_wp2_with fail
 refine Calls.mono K.out ?_
 rintro e w2 ⟨⟨r,rfl,hr⟩,hb⟩
 have HB:=show Hid (Below w.heap.size w w2) from hb
 have HR:=show Hid (decide (0≤r)=l.any p ∧ -1≤r∧r≤140737488351232) from by
  rcases hr with ⟨rfl,h⟩ | ⟨i,hi,rfl,h,_⟩
  ·refine ⟨?_,by omega,by omega⟩
   rw [decide_eq_false (by omega),eq_comm,List.any_eq_false]
   exact fun x hx=>by rw [h x hx];simp
  ·refine ⟨?_,by omega,by omega⟩
   rw [decide_eq_true (by omega),eq_comm,List.any_eq_true]
   exact ⟨_,List.getElem_mem hi,h⟩
 have h1:=HR.out.2.1
 have h2:=HR.out.2.2
 clear hr hb K
 go_wp2_with fail
 go_ret
 exact ⟨ret_bool (by rw [← HR.out.1]),HB.out⟩
theorem OwnI.grow {B:Nat} {w1 w2:World} {v v':Value} {l:List Nat} {k:Nat} {o:Obj} (h:OwnI B w1 v l) (ho:w2.ownsRow B 3 1 v' (l.length+1) (intsV l ++ [.int .i64 (k:Int)])) (hg:(w1.alloc o).grownBy w2 v.ownBlock) (hB:B≤w1.heap.size):OwnI B w2 v' (l ++ [k])∧Below B w1 w2:=by
 have hb1:=below_alloc w1 o
 have hb2:Below B (w1.alloc o) w2:=(Below.refl _ _).grown hg (Nat.le_trans hB hb1.size) (fun q hq=>(World.ownsRow.lt h q hq).1)
 refine ⟨?_,(hb1.mono hB).trans hb2⟩
 unfold OwnI
 rw [List.length_append,List.length_singleton,show intsV (l ++ [k])=intsV l ++ [.int .i64 (k:Int)] by simp [intsV]]
 exact ho
def numsTo (p:Int→Bool) (k:Nat):List Nat:=(List.range k).filter fun j:Nat=>p (j:Int)
theorem numsTo_step (p:Int→Bool) (k:Nat):numsTo p (k+1)=numsTo p k ++ if p (k:Int) then [k] else []:=by
 unfold numsTo
 rw [List.range_succ,List.filter_append,List.filter_cons,List.filter_nil]
theorem numsTo_len (p:Int→Bool) (k:Nat):(numsTo p k).length≤k:=by
 have:=List.length_filter_le (fun j:Nat=>p (j:Int)) (List.range k)
 rwa [List.length_range] at this
set_option maxRecDepth 100000 in
set_option maxHeartbeats 4000000 in
theorem chosen_any (w:World) {L n:Nat} {D:Int→Prop} {fv:Value} {p:Int→Bool} (hP:Prd w L D fv p) (hD:∀ k:Nat,k<n→D (k:Int)) (hL:L≤w.heap.size) (hn:n≤512) :
 Calls Try.prog 55 #[.int .i64 (n:Int),fv] w fun e w'=>∃ v,e=.returned v∧OwnI w.heap.size w' v (numsTo p n)∧Below w.heap.size w w':=by
 obtain ⟨i0,hi,hz0,hz1,hz2⟩:=info_parts infoI
 obtain ⟨f,cs,rfl,hcf,hc⟩:=hP
 have HCq:=show Hid (∀ (W:World) (k:Nat),Below w.heap.size w W→k<n→Calls Try.prog f ([Value.int .i64 (k:Int)] ++ cs).toArray W fun e w'=>e=.returned (.bool (p (k:Int)))∧Below W.heap.size W w') from fun W k hW hk=>hc W k (hW.mono hL) (hD k hk)
 have HCF:=show Hid (Cf f) from hcf
 have HST:=show Hid (∀ k,numsTo p (k+1)=numsTo p k ++ if p (k:Int) then [k] else []) from numsTo_step p
 have HLN:=show Hid (∀ k,(numsTo p k).length≤k) from numsTo_len p
 clear hc hcf hD
 go_enter Try.func55,Try.ntmps55
 go_wp2_with fail
 go_loopw [5,6,8] (fun v _ i wr=>∃ k:Nat,k≤n∧i=.int .i64 (k:Int)∧Hid (OwnI w.heap.size wr v (numsTo p k)∧Below w.heap.size w wr)) (fun _ _ i _=>n - (intOf i).toNat)
 case atStart=>exact ⟨0,Nat.zero_le _,rfl,World.ownsRow_nil _ _ _ _,Below.refl _ _⟩
 case round =>
  obtain ⟨k,hk,rfl,HQ⟩:=hrel
  by_cases hlt:k<n
  ·have KX:=show Hid _ from HCq.out wr k HQ.out.2 hlt
   have HS:=show Hid (∀ y,y=p (k:Int)→numsTo p (k+1)=numsTo p k ++ if y then [k] else []) from fun y hy=>by rw [hy];exact HST.out k
   have hle:=HLN.out k
   have hki:(k:Int)<(n:Int):=by omega
   clear HCq HST HLN
   generalize numsTo p k=l at *
   obtain ⟨pv,cv,rfl⟩:=HQ.out.1.slice
   go_wp2_with (refine wpList_callV rfl f _ [.tmp 12] _ rfl [.int .i64 (k:Int)] cs rfl rfl HCF.out ?_)
   refine Calls.mono KX.out ?_
   rintro e w2 ⟨rfl,hb2⟩
   refine ⟨_,rfl,?_⟩
   have HQ2:=show Hid (OwnI w.heap.size w2 (.slice pv l.length cv) l∧Below w.heap.size w w2) from ⟨HQ.out.1.later hb2,HQ.out.2.trans (hb2.mono HQ.out.2.size)⟩
   have HS2:=show Hid _ from HS.out (p (k:Int)) rfl
   clear hb2 HQ KX HS
   generalize p (k:Int)=y at *
   cases y
   ·go_wp2_with fail
    go_roundw
    case rel=>exact ⟨k+1,by omega,val_int (by omega),by rw [HS2.out];simpa using HQ2.out.1,HQ2.out.2⟩
    case measure=>(simp only [intOf];omega)
   ·go_wp2_with (at_builtin;refine wpList_append_own _ rfl (.tmp 14) (.tmp 16) 27 rfl w.heap.size 3 i0 (.int .i64 0) 1 8 Try.underlying27 hi hz0 hz1 hz2 rfl (by decide) _ l.length (intsV l) rfl (HQ2.out.1.later (below_alloc w2 _)) ⟨w2.heap.size,0,none⟩ 1 1 [.int .i64 (k:Int)] rfl rfl (cell_one_new _ _ _) (by simp [Value.oneCell']) (by unfold maxLen;omega) (by omega) (by have:=HQ2.out.2.size;simp;omega) ?_)
    intro v' w3 ho3 hg3 _
    have HQ3:=show Hid (OwnI w.heap.size w3 v' (l ++ [k])∧Below w.heap.size w w3) from by
     have:=HQ2.out.1.grow ho3 hg3 HQ2.out.2.size
     exact ⟨this.1,HQ2.out.2.trans this.2⟩
    clear ho3 hg3 HQ2
    go_wp2_with fail
    go_roundw
    case rel=>exact ⟨k+1,by omega,val_int (by omega),by rw [HS2.out];simpa using HQ3.out.1,HQ3.out.2⟩
    case measure=>(simp only [intOf];omega)
  ·obtain rfl:k=n:=by omega
   go_wp2_with fail
   go_ret
   exact ⟨_,rfl,HQ.out⟩
set_option maxRecDepth 100000 in
set_option maxHeartbeats 2000000 in
theorem isRoot_any (w:World) {L n a:Nat} {fv:Value} {M:Nat→Nat→Bool} (hO:Ord w L n fv M) (ha:a<n) (hL:L≤w.heap.size) (hn:n≤512) :
 Calls Try.prog 70 #[.int .i64 (a:Int),.int .i64 (n:Int),fv] w fun e w'=>e=.returned (.bool ((List.range n).all (M a)))∧Below w.heap.size w w':=by
 obtain ⟨f,cs,rfl,hcf,hc⟩:=hO
 have HCq:=show Hid (∀ (W:World) (k:Nat),Below w.heap.size w W→k<n→Calls Try.prog f ([Value.int .i64 (a:Int),Value.int .i64 (k:Int)] ++ cs).toArray W fun e w'=>e=.returned (.bool (M a k))∧Below W.heap.size W w') from fun W k hW hk=>hc W a k (hW.mono hL) ha hk
 have HCF:=show Hid (Cf f) from hcf
 have HT:=show Hid ((∀ j,j<n→M a j=true)→(List.range n).all (M a)=true) from fun h=>List.all_eq_true.2 fun j hj=>h j (List.mem_range.1 hj)
 have HF:=show Hid (∀ j,j<n→M a j=false→(List.range n).all (M a)=false) from fun j hj h=>List.all_eq_false.2 ⟨j,List.mem_range.2 hj,by rw [h];simp⟩
 generalize (List.range n).all (M a)=ans at *
 clear hc hcf
 go_enter Try.func70,Try.ntmps70
 go_wp2_with fail
 go_loopw [7,9] (fun _ i wr=>∃ k:Nat,k≤n∧i=.int .i64 (k:Int)∧Hid ((∀ j,j<k→M a j=true)∧Below w.heap.size w wr)) (fun _ i _=>n - (intOf i).toNat)
 case atStart=>exact ⟨0,Nat.zero_le _,rfl,fun _ h=>absurd h (Nat.not_lt_zero _),Below.refl _ _⟩
 case round =>
  obtain ⟨k,hk,rfl,HQ⟩:=hrel
  by_cases hlt:k<n
  ·have KX:=show Hid _ from HCq.out wr k HQ.out.2 hlt
   have HS:=show Hid (∀ y,y=M a k→(y=true→∀ j,j<k+1→M a j=true)∧(y=false→ans=false)) from fun y hy=>⟨fun h j hj=>by
    by_cases e:j=k
    ·rw [e,← hy];exact h
    ·exact HQ.out.1 j (by omega),fun h=>HF.out k hlt (hy ▸ h)⟩
   have HB:=show Hid (Below w.heap.size w wr) from HQ.out.2
   have hki:(k:Int)<(n:Int):=by omega
   clear HCq HQ HF HT
   go_wp2_with (refine wpList_callV rfl f _ [.tmp 13,.tmp 14] _ rfl [.int .i64 (a:Int),.int .i64 (k:Int)] cs rfl rfl HCF.out ?_)
   refine Calls.mono KX.out ?_
   rintro e w2 ⟨rfl,hb2⟩
   refine ⟨_,rfl,?_⟩
   have HB2:=show Hid (Below w.heap.size w w2) from HB.out.trans (hb2.mono HB.out.size)
   have HS2:=show Hid _ from HS.out (M a k) rfl
   clear hb2 HB KX HS
   generalize M a k=y at *
   cases y
   ·go_wp2_with fail
    go_ret
    exact ⟨ret_bool (HS2.out.2 (by first | rfl | trivial)).symm,HB2.out⟩
   ·go_wp2_with fail
    go_roundw
    case rel=>exact ⟨k+1,by omega,val_int (by omega),HS2.out.1 (by first | rfl | trivial),HB2.out⟩
    case measure=>(simp only [intOf];omega)
  ·obtain rfl:k=n:=by omega
   go_wp2_with fail
   go_ret
   exact ⟨ret_bool (HT.out HQ.out.1).symm,HQ.out.2⟩
end Go.Proofs.Ytoedidbbjnnpnaa.Wm

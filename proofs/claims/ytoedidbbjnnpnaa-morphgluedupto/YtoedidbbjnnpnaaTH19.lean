/-
  What one step of the refining leaves, and how the number of classes is read off memory (plain but for the reading).
-/
import Derived.Test.YtoedidbbjnnpnaaQMClsF
import Derived.Test.YtoedidbbjnnpnaaTH18
import Derived.Test.YtoedidbbjnnpnaaTH12
namespace Go.Proofs.Ytoedidbbjnnpnaa.Wm
open Go.RowKit Go.Maps
open Wd (Md Rc Ed upd vl allW)
set_option linter.unusedSimpArgs false
set_option linter.unusedVariables false
theorem finer_repsN {E E':Nat→Nat→Bool} (hE:Eqv E) (hE':Eqv E') (n:Nat) (h:∀ a b,a<n→b<n→E' a b=true→E a b=true) :
 repsTo E n≤repsTo E' n∧(repsTo E n=repsTo E' n→∀ w,w<n→cnF E' w=cnF E w):=by
 have hr:∀ x,x ∈ List.range n→isRep E x=true→isRep E' x=true:=fun x hxn hx=>isRep_iff.2 fun v hv=>by
  have hxn:=List.mem_range.1 hxn
  cases hb:E' v x
  ·rfl
  ·have:=h v x (by omega) hxn hb
   rw [isRep_iff.1 hx v hv] at this;cases this
 refine ⟨filter_len_le _ hr,fun he w hw => ?_⟩
 have hs:∀ x,x<n→isRep E x=isRep E' x:=fun x hx=>filter_len_eq (List.range n) hr he x (List.mem_range.2 hx)
 obtain ⟨h1,h2,h3⟩:=rep_spec hE' w
 have e:repF E' w=repF E w:=rep_unique hE (by rw [hs _ (by omega)];exact h3) (h _ _ (by omega) hw h2)
 unfold cnF repsTo
 rw [e]
 congr 1
 refine List.filter_congr fun x hx => ?_
 have h4:=(rep_spec hE w).1
 exact (hs x (by have:=List.mem_range.1 hx;omega)).symm
theorem valP_eqv (m:Md) (cls:Nat→Nat):Eqv (fineE cls (valP m)):=by
 refine fineE_eqv cls (fun a => ?_) (fun a b h => ?_) (fun a b c h k => ?_)
 ·unfold valP;simp
 ·unfold valP at h ⊢;simp at h ⊢;exact h.symm
 ·unfold valP at h k ⊢;simp at h k ⊢;exact h.trans k
theorem setP_eqv (ws:Nat→Nat) (cls:Nat→Nat):Eqv (fineE cls (setP ws)):=by
 have key:∀ a b,setP ws a b=false ↔ ∀ i,i<8→ws (a * 8+i)=ws (b * 8+i):=fun a b=>by
  unfold setP same8
  simp
 refine fineE_eqv cls (fun a=>(key a a).2 fun _ _=>rfl) (fun a b h=>(key b a).2 fun i hi=>((key a b).1 h i hi).symm) (fun a b c h k=>(key a c).2 fun i hi=>((key a b).1 h i hi).trans ((key b c).1 k i hi))
structure ClsI (m:Md) (E:Nat→Nat→Bool):Prop where
 eqv:Eqv E
 val:∀ a b,a<m.up.length→b<m.up.length→cnF E a=cnF E b→vl m a=vl m b
 coarse:∀ B,Bis m B→∀ a b,B a b→cnF E a=cnF E b
def clI (n:Nat) (E:Nat→Nat→Bool):List Int:=(List.range n).map fun a=>(cnF E a:Int)
theorem numF_clI {n:Nat} {E:Nat→Nat→Bool} {a:Nat} (h:a<n):numF (clI n E) a=cnF E a:=by
 unfold numF clI
 rw [List.getD_eq_getElem?_getD,List.getElem?_map,List.getElem?_range h]
 rfl
theorem clI_len (n:Nat) (E:Nat→Nat→Bool):(clI n E).length=n:=by simp [clI]
theorem clI_lt {n:Nat} {E:Nat→Nat→Bool} (hE:Eqv E):∀ x ∈ clI n E,0≤x∧x<(n:Int):=fun x hx=>by
 obtain ⟨a,ha,rfl⟩:=List.mem_map.1 hx
 have h1:=cn_lt hE (List.mem_range.1 ha)
 have h2:=repsTo_le (E:=E) n
 omega
section
variable {m:Md} {E:Nat→Nat→Bool}
theorem clsI_first (n:Nat) (cl:List Int) (hcl:∀ a,numF cl a=0):ClsI m (fineE (numF cl) (valP m)):=by
 have hE:=valP_eqv m (numF cl)
 refine ⟨hE,fun a b _ _ h => ?_,fun B hB a b hab => ?_⟩
 ·have h1:=(cn_eq hE).1 h
  unfold fineE valP at h1
  simp at h1
  exact h1.2
 ·rw [cn_eq hE]
  unfold fineE valP
  rw [hcl,hcl,hB.val a b hab]
  simp
section
variable {ws:Nat→Nat} {n:Nat}
theorem sees_same (hn:m.up.length=n) (hn5:n≤512) (hlt:∀ a b,a<n→Rc m.up a b→b<n) (hE:Eqv E) (hws:∀ k,ws k<18446744073709551616) (hs:∀ a c,a<n→(abW ws a c=true ↔ ∃ b,Rc m.up a b∧numF (clI n E) b=c)) {a b:Nat} (ha:a<n) (hb:b<n) :
 setP ws a b=false ↔ ∀ c,Sees m (numF (clI n E)) a c ↔ Sees m (numF (clI n E)) b c:=by
 have h0:setP ws a b=false ↔ same8 ws ws a b=true:=by unfold setP;simp
 rw [h0,same8_iff hws hws]
 constructor
 ·intro h c
  by_cases hc:c<512
  ·have h1:=h c hc
   unfold Sees
   rw [← hs a c ha,← hs b c hb,h1]
  ·have hno:∀ x,x<n→¬ Sees m (numF (clI n E)) x c:=fun x hx ⟨y,hy,e⟩=>by
    have h1:=hlt x y hx hy
    rw [numF_clI h1] at e
    have h2:=cn_lt hE h1
    have h3:=repsTo_le (E:=E) n
    omega
   exact ⟨fun h=>absurd h (hno a ha),fun h=>absurd h (hno b hb)⟩
 ·intro h c _
  rw [Bool.eq_iff_iff,hs a c ha,hs b c hb]
  exact h c
theorem ClsI.next (h:ClsI m E) (hn:m.up.length=n) (hn5:n≤512) (hlt:∀ a b,a<n→Rc m.up a b→b<n) (hws:∀ k,ws k<18446744073709551616) (hs:∀ a c,a<n→(abW ws a c=true ↔ ∃ b,Rc m.up a b∧numF (clI n E) b=c)) :
 ClsI m (fineE (numF (clI n E)) (setP ws))∧(clI n (fineE (numF (clI n E)) (setP ws))=clI n E→ClsP m (cnF E))∧(clI n (fineE (numF (clI n E)) (setP ws))≠clI n E→repsTo E n<repsTo (fineE (numF (clI n E)) (setP ws)) n):=by
 have hE':=setP_eqv ws (numF (clI n E))
 have hto:∀ a b,a<n→b<n→fineE (numF (clI n E)) (setP ws) a b=true→cnF E a=cnF E b∧setP ws a b=false:=fun a b ha hb hab=>by
  unfold fineE at hab
  simp only [Bool.and_eq_true,beq_iff_eq,Bool.not_eq_true'] at hab
  rw [numF_clI ha,numF_clI hb] at hab
  exact hab
 have hfin:∀ a b,a<n→b<n→fineE (numF (clI n E)) (setP ws) a b=true→E a b=true:=fun a b ha hb hab=>(cn_eq h.eqv).1 (hto a b ha hb hab).1
 have hss:=fun {a b:Nat} (ha:a<n) (hb:b<n)=>sees_same (ws:=ws) hn hn5 hlt h.eqv hws hs ha hb
 have hBlt:∀ {B a b},Bis m B→B a b→a<n∧b<n:=fun hB hab=>by rw [← hn];exact hB.lt _ _ hab
 refine ⟨⟨hE',fun a b ha hb hab => ?_,fun B hB a b hab => ?_⟩,fun he => ?_,fun hne => ?_⟩
 ·rw [hn] at ha hb
  exact h.val a b (by omega) (by omega) (hto a b ha hb ((cn_eq hE').1 hab)).1
 ·refine bis_step hB hE' (fun a b ha hb hab=>(hss (by omega) (by omega)).2 hab) (fun a b hab => ?_) a b hab
  obtain ⟨ha,hb⟩:=hBlt hB hab
  rw [numF_clI ha,numF_clI hb]
  exact h.coarse B hB a b hab
 ·have hsame:∀ w,w<n→cnF (fineE (numF (clI n E)) (setP ws)) w=cnF E w:=fun w hw=>by
   rw [← numF_clI (E:=fineE (numF (clI n E)) (setP ws)) hw,he,numF_clI hw]
  refine ⟨⟨E,h.eqv,fun _ _=>rfl⟩,h.val,fun a b ha hb hab c hc => ?_,h.coarse⟩
  rw [hn] at ha hb
  have h1:fineE (numF (clI n E)) (setP ws) a b=true:=(cn_eq hE').1 (by rw [hsame a ha,hsame b hb];exact hab)
  have h2:=(hss ha hb).1 (hto a b ha hb h1).2
  obtain ⟨x,hx,rfl⟩:=hc
  obtain ⟨y,hy,e⟩:=(h2 (numF (clI n E) x)).1 ⟨x,hx,rfl⟩
  rw [numF_clI (hlt a x ha hx),numF_clI (hlt b y hb hy)] at e
  exact ⟨y,hy,e⟩
 ·obtain ⟨h1,h2⟩:=finer_repsN h.eqv hE' n hfin
  refine Nat.lt_of_le_of_ne h1 fun e=>hne ?_
  refine List.map_congr_left (f:=fun a=>(cnF (fineE (numF (clI n E)) (setP ws)) a:Int)) (g:=fun a=>(cnF E a:Int)) fun a ha => ?_
  show (cnF (fineE (numF (clI n E)) (setP ws)) a:Int)=(cnF E a:Int)
  rw [h2 e a (List.mem_range.1 ha)]
end
end
def cellN (W:World) (v:Value) (j:Nat):Nat:=match v with
 | .slice (some a) _ _=>(intOf ((W.cell? ⟨a.block,a.off+j,none⟩).getD (.int .i64 0))).toNat
 | _=>0
def topI (W:World) (v:Value):Nat→Nat
 | 0=>0
 | j+1=>max (topI W v j) (cellN W v j+1)
theorem cellN_own {B:Nat} {W:World} {v:Value} {l:List Nat} (h:OwnI B W v l) {j:Nat} (hj:j<l.length):cellN W v j=l[j]:=by
 obtain ⟨p,c,rfl⟩:=h.slice
 obtain ⟨b,o,_,rfl,hat⟩:=(IsS.at h.isI).2 (by rw [List.length_map];omega)
 obtain ⟨x,hx,hi⟩:=hat j (by rw [List.length_map];exact hj)
 rw [List.getElem_map] at hi
 cases hi
 show (intOf ((W.cell? ⟨b,o+j,none⟩).getD (.int .i64 0))).toNat=l[j]
 rw [hx]
 simp [intOf]
theorem topI_own {B n:Nat} {W:World} {v:Value} {E:Nat→Nat→Bool} (hE:Eqv E) (h:OwnI B W v ((List.range n).map (cnF E))):∀ j,j≤n→topI W v j=repsTo E j
 | 0,_=>rfl
 | j+1,hj=>by
  have ih:=topI_own hE h j (by omega)
  have hc:=cellN_own h (j:=j) (by simp;omega)
  rw [List.getElem_map,List.getElem_range] at hc
  show max (topI W v j) (cellN W v j+1)=_
  rw [ih,hc,repsTo_succ]
  cases hr:isRep E j
  ·have h1:=(rep_spec hE j).1
   have h2:=(rep_spec hE j).2.2
   have h3:repF E j≠j:=fun e=>by rw [e,hr] at h2;cases h2
   have h4:cnF E j<repsTo E j:=by
    unfold cnF
    exact repsTo_lt h2 (by omega)
   simp;omega
  ·rw [cn_new hr]
   simp
end Go.Proofs.Ytoedidbbjnnpnaa.Wm
/-
  classes: of any well-formed model. No condition.
-/
namespace Go.Proofs.Ytoedidbbjnnpnaa.Wm
open Go.RowKit Go.Maps
open Wd (Md Rc Ed upd vl allW)
set_option linter.unusedSimpArgs false
set_option linter.unusedVariables false
theorem ownI_clI {B n:Nat} {W:World} {v:Value} {E:Nat→Nat→Bool} (h:OwnI B W v ((List.range n).map (cnF E))):IsI W W.heap.size v (clI n E):=by
 have h1:=h.isI
 rw [List.map_map] at h1
 exact h1
theorem isI_made (w:World) (n:Nat):IsI (w.alloc (.cells (madeCells #[.int .i64 0] n) 3)) (w.alloc (.cells (madeCells #[.int .i64 0] n) 3)).heap.size (.slice (some ⟨w.heap.size,0,none⟩) n n) (List.replicate n (0:Int)):=by
 refine ⟨_,_,by rw [List.length_replicate],fun h0=>⟨w.heap.size,0,by simp,rfl,fun j hj=>⟨.int .i64 0,?_,?_⟩⟩⟩
 ·have h1:Rw (w.alloc (.cells (madeCells #[.int .i64 0] n) 3)) w.heap.size n 3 (fun _=>.int .i64 0):=by
   unfold Rw
   rw [heap_alloc_new]
   congr 2
   apply Array.ext'
   rw [toList_madeCells_one]
   simp [List.map_const']
  rw [Nat.zero_add]
  exact h1.cell (by simpa using hj)
 ·rw [List.getElem_replicate];rfl
set_option maxRecDepth 100000 in
set_option maxHeartbeats 8000000 in
theorem classes_any (w:World) {L:Nat} {uv vv:Value} {m:Md} (hm:IsM w L uv vv m) (hf:Fit m) (hG:Wd.Good m) (hL:L≤w.heap.size) :
 Calls Try.prog 37 #[.agg #[uv,vv]] w fun e w'=>∃ v E,e=.returned v∧OwnI w.heap.size w' v ((List.range m.up.length).map (cnF E))∧Eqv E∧ClsP m (cnF E)∧Below w.heap.size w w':=by
 obtain ⟨h1,h5,hvl,hall0,-⟩:=Wd.shaped_and hG.shape
 have HLT:=show Hid (∀ a b,a<m.up.length→Rc m.up a b→b<m.up.length) from fun a b ha h=>rc_to hG ha h
 have HM:=show Hid (∀ W,Below w.heap.size w W→IsM W W.heap.size uv vv m) from fun W hW=>by
  have h1:=hm.below (hW.mono hL)
  have h2:=Nat.le_trans hL hW.size
  exact ⟨(IsS.keep (R':=fun r x=>IsI W W.heap.size x r) h1.up (fun _ _=>rfl) fun _ _ h=>IsS.wide h h2).wide h2,(IsS.keep (R':=fun r x=>IsN W W.heap.size x r) h1.val (fun _ _=>rfl) fun _ _ h=>IsS.wide h h2).wide h2⟩
 have HF:=show Hid (Fit m∧Wd.Good m∧m.val.length=m.up.length) from ⟨hf,hG,hvl⟩
 have HMA:=show Hid (∀ W:World,(Instr.makeSlice 27 (.int .i64 (m.up.length:Int)) (.int .i64 (m.up.length:Int))).run Try.prog W=.ok (.slice (some ⟨W.heap.size,0,none⟩) m.up.length m.up.length) (W.alloc (.cells (madeCells #[.int .i64 0] m.up.length) 3))) from fun W=>by
  obtain ⟨i0,hi,hz0,hz1,hz2⟩:=info_parts infoI
  have h:=run_makeSlice (P:=Try.prog) W 27 3 i0 _ Try.underlying27 hi hz0 .i64 .i64 (m.up.length:Int) (m.up.length:Int) (by omega) (Int.le_refl _) (by rw [hz1];omega) (by rw [hz2];omega) (by omega)
  simp only [Int.toNat_natCast,hz1,Nat.mul_one] at h
  exact h
 obtain ⟨pu,cu,rfl⟩:=IsS.form hm.up
 obtain ⟨pv,cv,rfl⟩:=IsS.form hm.val
 generalize hn:m.up.length=n at *
 have HN:=show Hid (m.up.length=n∧n≤512) from ⟨hn,h5⟩
 have hn5:=h5
 clear hm hf hG hL hall0 h1 hvl hn h5
 go_enter Try.func37,Try.ntmps37
 go_wp2_with (refine wpList_box 25 _ rfl _ rfl rfl ?_)
 intro w1 b1 hN1
 have hms:=HMA.out w1
 have c1:w1.cell? ⟨b1,0,none⟩=some (.slice pu n cu):=Cl.cell hN1.blk 0
 have HW1:=show Hid (∀ W,Below w1.heap.size w1 W→Below w.heap.size w W∧Cl W b1 #[.slice pu n cu,.slice pv m.val.length cv] 25) from fun W hW=>⟨hN1.bel.trans (hW.mono hN1.bel.size),Cl.later hN1.blk hW⟩
 clear hN1
 have K1:=show Hid _ from parted_any (w1.alloc (.cells (madeCells #[.int .i64 0] n) 3)) (L:=(w1.alloc (.cells (madeCells #[.int .i64 0] n) 3)).heap.size) (n:=n) (P:=valP m) (fv:=.func (.func 63) #[] #[.pointer (some ⟨b1,0,none⟩)]) (isI_made w1 n) (by simp) (fun x hx=>by
  obtain rfl:=(List.mem_replicate.1 hx).2
  have:=(List.mem_replicate.1 hx).1
  omega) ⟨63,[.pointer (some ⟨b1,0,none⟩)],rfl,cf_cls1,fun W x y hW hx hy=>by
  have hb:=HW1.out W ((below_alloc w1 _).trans (hW.mono (below_alloc w1 _).size))
  exact cls1_any W (HM.out W hb.1) HF.out.1 hb.2 (Nat.le_refl _) (by rw [HF.out.2.2,HN.out.1]) (by rw [HN.out.1];exact hx) (by rw [HN.out.1];exact hy)⟩ (Nat.le_refl _) (valP_eqv m _) hn5
 have HA1:=show Hid (Below w1.heap.size w1 (w1.alloc (.cells (madeCells #[.int .i64 0] n) 3))) from below_alloc w1 _
 go_wp2_with (simp only [hms])
 clear hms HMA c1
 refine Calls.mono K1.out ?_
 rintro e w2 ⟨v,rfl,ho2,hb2⟩
 have H2:=show Hid (∃ E,ClsI m E∧OwnI w.heap.size w2 v ((List.range n).map (cnF E))∧Below w1.heap.size w1 w2) from
  ⟨_,clsI_first n (List.replicate n 0) (fun a=>by unfold numF;rw [List.getD_eq_getElem?_getD,List.getElem?_replicate];split <;> rfl),ho2.base (by have:=(HW1.out _ HA1.out).1.size;exact this),HA1.out.trans (hb2.mono HA1.out.size)⟩
 clear K1 HA1 ho2 hb2
 go_wp2_with fail
 go_loopw [4,5,6] (fun v _ _ wr=>∃ E,Hid (ClsI m E∧OwnI w.heap.size wr v ((List.range n).map (cnF E))∧Below w1.heap.size w1 wr)) (fun v _ _ wr=>n - topI wr v n)
 case atStart =>
  obtain ⟨E,h⟩:=H2.out
  exact ⟨E,h⟩
 case round =>
  clear H2
  obtain ⟨E,HI⟩:=hrel
  obtain ⟨pk,ck,rfl⟩:=HI.out.2.1.slice
  simp only [List.length_map,List.length_range] at *
  have HB1:=show Hid (Below w.heap.size w wr∧Cl wr b1 #[.slice pu n cu,.slice pv m.val.length cv] 25) from HW1.out wr HI.out.2.2
  have HWR:=show Hid (∀ W,Below wr.heap.size wr W→Below w1.heap.size w1 W) from fun W hW=>HI.out.2.2.trans (hW.mono HI.out.2.2.size)
  have HOL:=show Hid (topI wr (.slice pk n ck) n=repsTo E n) from topI_own HI.out.1.eqv HI.out.2.1 n (Nat.le_refl _)
  have KS0:=seen_any wr (HM.out wr HB1.out.1) HF.out.1 HF.out.2.1 (ownI_clI HI.out.2.1) (Nat.le_refl _) (by rw [clI_len,HN.out.1]) (fun i hi=>by
   have:=clI_lt HI.out.1.eqv i hi
   omega)
  rw [HN.out.1] at KS0
  have KS:=show Hid _ from KS0
  clear KS0
  go_wp2_with (refine wpList_ldw 25 _ rfl b1 rfl _ _ HB1.out.2 rfl Try.underlying25 sizeM rfl ?_)
  refine Calls.mono KS.out ?_
  rintro e w3 ⟨A,rfl,ws,hA,hs,-,hb3⟩
  obtain ⟨nx1,nx2,nx3⟩:=HI.out.1.next HN.out.1 hn5 HLT.out hA.lt hs
  have ha4:=below_alloc w3 (.cells #[.slice (some ⟨A,0,none⟩) n n] 99)
  have h54:Cl (w3.alloc (.cells #[.slice (some ⟨A,0,none⟩) n n] 99)) w3.heap.size #[.slice (some ⟨A,0,none⟩) n n] 99:=heap_alloc_new w3 _
  have hA4:=hA.keep (ha4.block A hA.row.lt)
  have hb4:Below wr.heap.size wr (w3.alloc (.cells #[.slice (some ⟨A,0,none⟩) n n] 99)):=hb3.trans (ha4.mono hb3.size)
  have HK4:=show Hid (OwnI w.heap.size (w3.alloc (.cells #[.slice (some ⟨A,0,none⟩) n n] 99)) (.slice pk n ck) ((List.range n).map (cnF E))∧Below wr.heap.size wr (w3.alloc (.cells #[.slice (some ⟨A,0,none⟩) n n] 99))) from ⟨HI.out.2.1.later hb4,hb4⟩
  have K2:=show Hid _ from parted_any (w3.alloc (.cells #[.slice (some ⟨A,0,none⟩) n n] 99)) (L:=(w3.alloc (.cells #[.slice (some ⟨A,0,none⟩) n n] 99)).heap.size) (n:=n) (P:=setP ws) (fv:=.func (.func 66) #[] #[.pointer (some ⟨w3.heap.size,0,none⟩)]) (ownI_clI HK4.out.1) (clI_len n E) (clI_lt HI.out.1.eqv)
   ⟨66,[.pointer (some ⟨w3.heap.size,0,none⟩)],rfl,cf_cls2,fun W x y hW hx hy=>cls2_any W (h54.later hW) (hA4.keep (hW.block A hA4.row.lt)) hx hy⟩ (Nat.le_refl _) (setP_eqv ws _) hn5
  have HX:=show Hid (ClsI m (fineE (numF (clI n E)) (setP ws))∧(clI n (fineE (numF (clI n E)) (setP ws))=clI n E→ClsP m (cnF E))∧(clI n (fineE (numF (clI n E)) (setP ws))≠clI n E→repsTo E n<repsTo (fineE (numF (clI n E)) (setP ws)) n)) from ⟨nx1,nx2,nx3⟩
  clear KS hA hs hb3 ha4 h54 hA4 hb4 nx1 nx2 nx3
  generalize fineE (numF (clI n E)) (setP ws)=E2 at *
  go_wp2_with fail
  refine Calls.mono K2.out ?_
  rintro e w5 ⟨v6,rfl,ho5,hb5⟩
  clear K2
  have H5:=show Hid (OwnI w.heap.size w5 (.slice pk n ck) ((List.range n).map (cnF E))∧OwnI w.heap.size w5 v6 ((List.range n).map (cnF E2))∧Below w1.heap.size w1 w5) from
   ⟨HK4.out.1.later hb5,ho5.base (by have h1:=HK4.out.2.size;have h2:=HB1.out.1.size;omega),HWR.out w5 (HK4.out.2.trans (hb5.mono HK4.out.2.size))⟩
  clear ho5 hb5 HK4 HB1
  obtain ⟨p6,c6,rfl⟩:=H5.out.2.1.slice
  simp only [List.length_map,List.length_range] at *
  have K3:=show Hid _ from eqlI_any w5 (ownI_clI H5.out.2.1) (ownI_clI H5.out.1) (by rw [clI_len];omega) (by rw [clI_len];omega)
  go_wp2_with fail
  refine Calls.mono K3.out ?_
  rintro e w6 ⟨⟨r,rfl,hr⟩,hb6⟩
  have H6:=show Hid (OwnI w.heap.size w6 (.slice pk n ck) ((List.range n).map (cnF E))∧OwnI w.heap.size w6 (.slice p6 n c6) ((List.range n).map (cnF E2))∧Below w1.heap.size w1 w6) from
   ⟨H5.out.1.later hb6,H5.out.2.1.later hb6,H5.out.2.2.trans (hb6.mono H5.out.2.2.size)⟩
  have HR:=show Hid (r=true ↔ clI n E2=clI n E) from hr
  clear hr hb6 H5 K3
  cases r
  ·have HT:=show Hid (topI w6 (.slice p6 n c6) n=repsTo E2 n∧repsTo E n<repsTo E2 n∧repsTo E2 n≤n) from
    ⟨topI_own HX.out.1.eqv H6.out.2.1 n (Nat.le_refl _),HX.out.2.2 (fun e=>absurd (HR.out.2 e) (by decide)),repsTo_le n⟩
   go_wp2_with fail
   go_roundw
   case rel=>exact ⟨E2,HX.out.1,H6.out.2⟩
   case measure =>
    have h1:=HT.out
    have h2:=HOL.out
    rw [h1.1,h2]
    omega
  ·have HC:=show Hid (ClsP m (cnF E)∧Eqv E) from ⟨HX.out.2.1 (HR.out.1 rfl),HI.out.1.eqv⟩
   go_wp2_with fail
   go_ret
   exact ⟨_,E,rfl,H6.out.1,HC.out.2,HC.out.1,(HW1.out _ H6.out.2.2).1⟩
end Go.Proofs.Ytoedidbbjnnpnaa.Wm

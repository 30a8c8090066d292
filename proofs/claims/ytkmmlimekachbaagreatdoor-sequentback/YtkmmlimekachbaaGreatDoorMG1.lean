/-
  Maps whose keys are numbers, as functions; regions that draw their order, step by step; calls of function values. No condition.
-/
import Derived.Test.YtkmmlimekachbaaGreatDoorFG3
import Derived.Test.YtkmmlimekachbaaGreatDoorPG
import Derived.Deep.RegionHeld3
import Derived.Laws.EntriesVeiled
import Derived.RangeFuncNested
import Derived.RangeFuncBound
import Derived.RangeFuncCalls
import Derived.RangeFuncLeaves
import Derived.RangeFuncFrom
import Derived.RangeFuncWrites
import Derived.RangeFuncBox
import Derived.Shelf.Abstract
import Derived.Shelf.RegionOpen
import Derived.OwnWalkIn
import Derived.TacticsInMore
import Derived.LoopNIn
import Derived.LoopIn
namespace Go.Proofs.YtkmmlimekachbaaGreatDoor
open Go.RowKit Go.Maps
open Fm (Nd)
theorem Kp.mono {S S':Nat→Prop} {w w':World} (h:Kp S w w') (hS:∀ k,S k→S' k):Kp S' w w':=⟨h.os,h.tape,h.output,h.size,fun k hk hn=>h.block k hk fun h'=>hn (hS k h')⟩
theorem Kp.cell {S:Nat→Prop} {w w':World} (h:Kp S w w') {b o:Nat} {x:Value} (hc:w.cell? ⟨b,o,none⟩=some x) (hn:¬ S b):w'.cell? ⟨b,o,none⟩=some x:=by
 have hlt:b<w.heap.size:=World.block_lt_of_cell? w _ hc
 rw [← hc]
 exact World.cell?_of_block (a:=⟨b,o,none⟩) (h.block b hlt hn)
theorem Kp.then {S:Nat→Prop} {a b c:World} (h:Kp S a b) (k:Kp S b c):Kp S a c:=h.trans k fun _ h=>Or.inl h
theorem Kp.belows {S:Nat→Prop} {a b c:World} (h:Kp S a b) (k:Below b.heap.size b c):Kp S a c:=h.then (Kp.of_below k)
theorem Kp.alloc {S:Nat→Prop} {a b:World} (h:Kp S a b) (o:Obj):Kp S a (b.alloc o):=h.belows (below_alloc _ _)
/-! ### maps -/
def heldR:Value→Option (DataW Value × List MemPlace):=fun v=>some (.held v,[])
def kI (i:Int):Lit:=.int .i64 i
theorem kI_key {i:Int} (h:Fm.i64 i):keyOf Tryz.prog 3 (.int .i64 i)=some (kI i):=keyOf_int_mk Tryz.underlying3 (wf64 h)
theorem kI_lit {i:Int} (h:Fm.i64 i):WideAt.IsKeyLit (kI i):=(int_keyed Tryz.underlying3).key (kI_key h)
theorem kI_inj {i j:Int} (h:kI i=kI j):i=j:=by unfold kI at h;cases h;rfl
def updM (g:Int→Option Value) (i:Int) (x:Value):Int→Option Value:=fun j=>if j=i then some x else g j
def Mp (w:World) (m n:Nat) (g:Int→Option Value):Prop :=
 ∃ D:DataW Value,w.ownsMap Tryz.prog 3 heldR m n D∧∀ i,Fm.i64 i→Maps.has D (kI i)=(g i).isSome∧∀ z,D.atKey (kI i) z=((g i).map DataW.held).getD z
section
variable {w w':World} {m n:Nat} {g:Int→Option Value}
theorem mp_made (w:World):Mp (w.alloc (.map #[] 0)) w.heap.size 0 (fun _=>none) :=
 ⟨.map [],World.ownsMap_made w _ _ _,fun i _=>⟨by simp [Maps.has],fun z=>rfl⟩⟩
theorem Mp.lt (h:Mp w m n g):m<w.heap.size:=by obtain ⟨D,hD,_⟩:=h;exact hD.lt
theorem Mp.keep (h:Mp w m n g) (hk:w'.heap[m]?=w.heap[m]?):Mp w' m n g:=by
 obtain ⟨D,⟨es,cl,hb,r⟩,hg⟩:=h
 exact ⟨D,⟨es,cl,hk.trans hb,r⟩,hg⟩
theorem Mp.later (h:Mp w m n g) (hb:Below w.heap.size w w'):Mp w' m n g:=h.keep (hb.block m h.lt)
theorem Mp.mono (h:Mp w m n g) {n':Nat} (hn:n≤n'):Mp w m n' g:=by
 obtain ⟨D,hD,hg⟩:=h
 exact ⟨D,hD.mono hn,hg⟩
theorem Mp.look (h:Mp w m n g) {t e:TypeId} (ht:Tryz.prog.underlying t=some (.map 3 e)) {z:Value} (hz:(zeroValue e).run Tryz.prog w=.ok z w) {i:Int} (hi:Fm.i64 i) :
 (Instr.lookup t (.map (some m)) (.int .i64 i) true).run Tryz.prog w=.ok (.tuple #[(g i).getD z,.bool (g i).isSome]) w:=by
 obtain ⟨D,hD,hg⟩:=h
 obtain ⟨v,ps,hr,hv⟩:=hD.look_ok (int_keyed Tryz.underlying3) ht hz (zd:=.held z) (zp:=[]) rfl (kI_key hi)
 rw [hr,(hg i hi).1]
 have e1:(DataW.held v:DataW Value)=D.atKey (kI i) (.held z):=by
  unfold heldR at hv
  exact congrArg Prod.fst (Option.some.inj hv)
 rw [(hg i hi).2] at e1
 cases hx:g i with
 | none=>rw [hx] at e1;cases e1;rfl
 | some x=>rw [hx] at e1;cases e1;rfl
theorem Mp.put (h:Mp w m n g) {t e:TypeId} (ht:Tryz.prog.underlying t=some (.map 3 e)) (hn:n<maxLen) {i:Int} (hi:Fm.i64 i) (x:Value) :
 ∃ w',(Instr.mapUpdate t (.map (some m)) (.int .i64 i) x).run Tryz.prog w=.ok () w'∧Mp w' m (n+1) (updM g i x)∧Kp (fun k=>k=m) w w':=by
 obtain ⟨D,hD,hg⟩:=h
 obtain ⟨w',hr,ho,hgr⟩:=hD.update (int_keyed Tryz.underlying3) ht hn (kI_key hi) (val:=x) (d:=.held x) (ps:=[]) rfl
 refine ⟨w',hr,⟨_,ho,fun j hj => ?_⟩,⟨hgr.os,hgr.tape,hgr.output,hgr.size,fun k hk hne=>hgr.block k hk (fun e=>hne (Option.some.inj e))⟩⟩
 unfold updM
 by_cases e:j=i
 ·subst e
  rw [if_pos rfl]
  exact ⟨has_put_same hD.isMap (kI_lit hi) _,fun z=>atKey_put_same hD.isMap (kI_lit hi) _ _⟩
 ·rw [if_neg e]
  have hne:kI j≠kI i:=fun h=>e (kI_inj h)
  exact ⟨(has_put_other hne _).trans (hg j hj).1,fun z=>(atKey_put_other hne _ _).trans ((hg j hj).2 z)⟩
theorem own_sz {w:World} {m n:Nat} {D:DataW Value} (h:w.ownsMap Tryz.prog 3 heldR m n D):w.ownsMap Tryz.prog 3 heldR m (Maps.size D) D:=by
 obtain ⟨es,clock,hb,F,_,rfl⟩:=h
 refine ⟨es,clock,hb,F,?_,rfl⟩
 simp [Maps.size,length_sorted]
theorem Mp.put2 (h:Mp w m n g) {t e:TypeId} (ht:Tryz.prog.underlying t=some (.map 3 e)) (hn:n<maxLen) {i:Int} (hi:Fm.i64 i) (x:Value) :
 ∃ w',(Instr.mapUpdate t (.map (some m)) (.int .i64 i) x).run Tryz.prog w=.ok () w'∧Mp w' m (n+if (g i).isSome then 0 else 1) (updM g i x)∧Kp (fun k=>k=m) w w':=by
 obtain ⟨w',hr,hM,hK⟩:=h.put ht hn hi x
 refine ⟨w',hr,?_,hK⟩
 obtain ⟨D,hD,hg⟩:=h
 obtain ⟨w2,hr2,ho,hgr⟩:=hD.update (int_keyed Tryz.underlying3) ht hn (kI_key hi) (val:=x) (d:=.held x) (ps:=[]) rfl
 rw [hr] at hr2
 obtain rfl:w'=w2:=by injection hr2
 have hsz:=size_put (k:=kI i) (hD.tidy (int_keyed Tryz.underlying3)) (.held x)
 have hle:=hD.size_le
 rw [(hg i hi).1] at hsz
 refine ⟨_,(own_sz ho).mono (by rw [hsz];split <;> omega),fun j hj => ?_⟩
 unfold updM
 by_cases e:j=i
 ·subst e
  rw [if_pos rfl]
  exact ⟨has_put_same hD.isMap (kI_lit hi) _,fun z=>atKey_put_same hD.isMap (kI_lit hi) _ _⟩
 ·rw [if_neg e]
  have hne:kI j≠kI i:=fun h=>e (kI_inj h)
  exact ⟨(has_put_other hne _).trans (hg j hj).1,fun z=>(atKey_put_other hne _ _).trans ((hg j hj).2 z)⟩
end
/-! ### regions that draw their order -/
section
variable {ops:Array Oper} {Q:Exit→Act→World→Prop} {S:World→Prop} {fuel:Nat} {listed:Array Bool} {a:Act} {w:World}
theorem takeV (i:Nat) (d:Option Tmp) {oi:Oper} (v:Value) (hi:ops[i]?=some oi) (hd:oi.dst=d) (hs:Region.noSelect ops=true) (hf:Region.free .any ops listed i=true) (hr:(Region.ready .any ops listed).contains i=true)
 (hQ:∀ c a w,Q (.panic c) (a.put d v) w→Q (.panic c) a w) (hw:Region.wanted oi (yielded ops a.tmps)=true) (hrun:∀ w,S w→(execOp a.eval oi).run Tryz.prog w=.ok (.value v) w) (hSw:S w)
 (h:wpAnyH Tryz.prog .any ops Q S fuel (listed.setIfInBounds i true) (a.put d v) w):wpAnyH Tryz.prog .any ops Q S (fuel+1) listed a w:=by
 subst hd
 exact wpAnyH_take hi hs hf hr hQ (.inl ⟨hw,fun w hw'=>hrun w hw'⟩) hSw h
theorem takeF (i:Nat) (d:Option Tmp) {oi:Oper} (hr:Region.ready .any ops listed=[i]) (hi:ops[i]?=some oi) (hd:oi.dst=d) (hw:Region.wanted oi (yielded ops a.tmps)=true) (f:FuncId) (x:Operand) (xs:List Operand) (ts:Array TypeId) (ho:oi.op=Op.call { callee:=Callee.value x,args:=xs.toArray,argTypes:=ts }) (vs cs:List Value) (hx:a.eval x=.func (.func f) #[] cs.toArray) (hv:xs.map a.eval=vs)
 (hcf:∀ vs w,(callFunc f vs).run Tryz.prog w=.ok (.enter f vs) w)
 (h:Calls Tryz.prog f (vs ++ cs).toArray w fun e w'=>∃ v,e=.returned v∧S w'∧(S w'→wpAnyH Tryz.prog .any ops Q S fuel (listed.setIfInBounds i true) (a.put d v) w')):wpAnyH Tryz.prog .any ops Q S (fuel+1) listed a w:=by
 subst hd
 subst hv
 refine wpAnyH_ready hr (by simp) (AllReadyH.cons hi (fun K hK => ?_) AllReadyH.nil)
 rw [if_pos hw]
 have hrun:(execOp a.eval oi).run Tryz.prog w=.ok (.enter f (xs.map a.eval ++ cs).toArray) w:=by
  simp [execOp,ho,resolve,invoke,Deferred.ofValue,hx,hcf]
 unfold Oper.wp
 rw [hrun,Oper.upon_enter]
 refine h.mono ?_
 rintro e w' ⟨v,rfl,hS,hn⟩
 exact hK.out _ _ hS hn
end
end Go.Proofs.YtkmmlimekachbaaGreatDoor
/-
  Rows of numbers in memory; the call sum; what the four counts make of the counts of two parts. For counts from 0 to 2^40.
-/
namespace Go.Proofs.YtkmmlimekachbaaGreatDoor
open Go.RowKit Go.Maps
open Fm (Nd)
def IsL (w:World) (v:Value) (l:List Int):Prop :=
 ∃ p c,v=.slice p l.length c∧l.length≤9223372036854775807∧∀ k (hk:k<l.length),∃ b o,p=some ⟨b,o,none⟩∧w.cell? ⟨b,o+k,none⟩=some (.int .i64 l[k])
theorem IsL.later {w w':World} {v:Value} {l:List Int} (h:IsL w v l) (hb:Below w.heap.size w w'):IsL w' v l:=by
 obtain ⟨p,c,hv,h1,h2⟩:=h
 refine ⟨p,c,hv,h1,fun k hk => ?_⟩
 obtain ⟨b,o,hp,hc⟩:=h2 k hk
 exact ⟨b,o,hp,(hb.cell (p:=⟨b,_,none⟩) (World.block_lt_of_cell? w _ hc)).trans hc⟩
theorem sums_snoc (l:List Int) (x a:Int):Ms.sums (l ++ [x]) a=min (Ms.sums l a+x) Ms.M:=by
 induction l generalizing a with
 | nil=>rfl
 | cons y l ih=>exact ih _
theorem sums_in (l:List Int) (h:∀ x ∈ l,0≤x∧x≤Ms.M) (a:Int) (ha:0≤a∧a≤Ms.M):0≤Ms.sums l a∧Ms.sums l a≤Ms.M:=by
 induction l generalizing a with
 | nil=>exact ha
 | cons y l ih =>
  refine ih (fun x hx=>h x (by simp [hx])) _ ?_
  have:=h y (by simp)
  unfold Ms.M at *
  omega
set_option maxRecDepth 100000 in
set_option maxHeartbeats 1000000 in
theorem sum_any (w:World) (v:Value) (l:List Int) (hv:IsL w v l) (hl:∀ x ∈ l,0≤x∧x≤Ms.M) :
 Calls Tryz.prog 134 #[v] w fun e w'=>e=.returned (.int .i64 (Ms.sums l 0))∧w'=w:=by
 obtain ⟨p,c,rfl,hlen,hcell⟩:=hv
 have HC:=show Hid (∀ k (hk:k<l.length),∃ b o,p=some ⟨b,o,none⟩∧w.cell? ⟨b,o+k,none⟩=some (.int .i64 l[k])) from hcell
 have HS:=show Hid (∀ k (hk:k<l.length),Ms.sums (l.take (k+1)) 0=min (Ms.sums (l.take k) 0+l[k]) Ms.M) from fun k hk=>by rw [List.take_succ_eq_append_getElem hk,sums_snoc]
 have HI:=show Hid (∀ k,0≤Ms.sums (l.take k) 0∧Ms.sums (l.take k) 0≤1099511627776) from fun k=>sums_in _ (fun x hx=>hl x (List.mem_of_mem_take hx)) 0 (by unfold Ms.M;omega)
 have HX:=show Hid (∀ k (hk:k<l.length),0≤l[k]∧l[k]≤1099511627776) from fun k hk=>hl _ (List.getElem_mem hk)
 have HE:=show Hid (Ms.sums (l.take l.length) 0=Ms.sums l 0) from by show Ms.sums (l.take l.length) 0=Ms.sums l 0;rw [List.take_length]
 generalize Ms.sums l 0=ans at *
 clear hcell hl
 go_enter Tryz.func134,Tryz.ntmps134
 go_wp2
 go_loopw [3,8] (fun s i wr=>∃ k:Nat,k≤l.length∧i=.int .i64 (k:Int)∧s=.int .i64 (Ms.sums (l.take k) 0)∧wr=w) (fun _ i _=>l.length - (intOf i).toNat)
 case atStart=>exact ⟨0,by omega,rfl,rfl,rfl⟩
 case round =>
  obtain ⟨k,hk,rfl,rfl,rfl⟩:=hrel
  by_cases hlt:k<l.length
  ·obtain ⟨b,o,rfl,hc⟩:=HC.out k hlt
   have hs:=HS.out k hlt
   have hi:=HI.out k
   have hx:=HX.out k hlt
   have hki:(k:Int)<(l.length:Int):=by omega
   have HS2:=show Hid (Ms.sums (l.take (k+1)) 0=min (Ms.sums (l.take k) 0+l[k]) 1099511627776) from hs
   clear hs HS HC HI HX HE
   generalize l[k]=x at *
   generalize Ms.sums (l.take k) 0=s at *
   by_cases hm:1099511627776<s+x
   ·go_wp2
    go_roundw
    case rel=>exact ⟨k+1,by omega,by go_num,(by rw [HS2.out];exact val_int (by omega)),(by first | rfl | trivial)⟩
    case measure=>first | (simp [intOf];done) | (simp [intOf];omega)
   ·go_wp2
    go_roundw
    case rel=>exact ⟨k+1,by omega,by go_num,(by rw [HS2.out];exact val_int (by omega)),(by first | rfl | trivial)⟩
    case measure=>first | (simp [intOf];done) | (simp [intOf];omega)
  ·have hke:k=l.length:=by omega
   subst hke
   have hE:=HE.out
   rw [hE]
   clear HS HC HI HX HE hE
   go_wp2
   go_ret
   exact ⟨rfl,rfl⟩
theorem isL3 (w:World) (x y z:Int):IsL (w.alloc (Obj.cells #[.int .i64 x,.int .i64 y,.int .i64 z] 3)) (.slice (some ⟨w.heap.size,0,none⟩) 3 3) [x,y,z]:=by
 refine ⟨_,_,rfl,by simp,fun k hk=>⟨_,_,rfl,?_⟩⟩
 rw [cell_of_row _ _ _ _ _ _ (heap_alloc_new _ _)]
 have:k=0∨k=1∨k=2:=by simp at hk;omega
 rcases this with rfl | rfl | rfl <;> rfl
theorem three_in {a b c:Int} (ha:0≤a∧a≤1099511627776) (hb:0≤b∧b≤1099511627776) (hc:0≤c∧c≤1099511627776):∀ x ∈ [a,b,c],0≤x∧x≤Ms.M:=by
 intro x hx
 simp only [List.mem_cons,List.not_mem_nil,or_false] at hx
 rcases hx with rfl | rfl | rfl
 ·exact ha
 ·exact hb
 ·exact hc
theorem sum3 {a b c:Int} (ha:0≤a∧a≤1099511627776) (hb:0≤b∧b≤1099511627776) (hc:0≤c∧c≤1099511627776) (w:World) :
 Calls Tryz.prog 134 #[.slice (some ⟨w.heap.size,0,none⟩) 3 3] (w.alloc (Obj.cells #[.int .i64 a,.int .i64 b,.int .i64 c] 3)) fun e w'=>e=.returned (.int .i64 (Ms.sums [a,b,c] 0))∧w'=w.alloc (Obj.cells #[.int .i64 a,.int .i64 b,.int .i64 c] 3) :=
 sum_any (w.alloc (Obj.cells #[.int .i64 a,.int .i64 b,.int .i64 c] 3)) (.slice (some ⟨w.heap.size,0,none⟩) 3 3) [a,b,c] (isL3 w a b c) (three_in ha hb hc)
def Joins (g:Nat) (f:Int→Int→Int→Int):Prop:=∀ (w:World) (k a b:Int),(0≤a∧a≤1099511627776)→(0≤b∧b≤1099511627776) →
 Calls Tryz.prog g #[.int .i64 k,.int .i64 a,.int .i64 b] w fun e w'=>e=.returned (.int .i64 (f k a b))∧Below w.heap.size w w'
set_option maxHeartbeats 1000000 in
theorem joins_weight:Joins 133 Ms.weightF:=by
 intro w k a b ha hb
 have K1:=show Hid (∀ w:World,Calls Tryz.prog 134 #[.slice (some ⟨w.heap.size,0,none⟩) 3 3] (w.alloc (Obj.cells #[.int .i64 a,.int .i64 b,.int .i64 1] 3)) fun e w'=>e=.returned (.int .i64 (Ms.sums [a,b,1] 0))∧w'=w.alloc (Obj.cells #[.int .i64 a,.int .i64 b,.int .i64 1] 3)) from fun w=>sum3 ha hb (by omega) w
 have K2:=show Hid (∀ w:World,Calls Tryz.prog 134 #[.slice (some ⟨w.heap.size,0,none⟩) 3 3] (w.alloc (Obj.cells #[.int .i64 a,.int .i64 b,.int .i64 2] 3)) fun e w'=>e=.returned (.int .i64 (Ms.sums [a,b,2] 0))∧w'=w.alloc (Obj.cells #[.int .i64 a,.int .i64 b,.int .i64 2] 3)) from fun w=>sum3 ha hb (by omega) w
 have HR:=show Hid (Ms.weightF k a b=if k=3 then Ms.sums [a,b,2] 0 else Ms.sums [a,b,1] 0) from rfl
 generalize Ms.weightF k a b=r at *
 generalize Ms.sums [a,b,1] 0=r1 at *
 generalize Ms.sums [a,b,2] 0=r2 at *
 by_cases hk:k=3
 ·have hr:=HR.out
  rw [if_pos hk] at hr
  subst hr
  subst hk
  clear HR
  go_enter Tryz.func133,Tryz.ntmps133
  go_wp2_with fail
  refine (K2.out _).mono ?_
  rintro e w' ⟨rfl,rfl⟩
  go_wp2_with fail
  go_ret
  exact ⟨rfl,below_alloc _ _⟩
 ·have hr:=HR.out
  rw [if_neg hk] at hr
  subst hr
  clear HR
  go_enter Tryz.func133,Tryz.ntmps133
  go_wp2_with fail
  refine (K1.out _).mono ?_
  rintro e w' ⟨rfl,rfl⟩
  go_wp2_with fail
  go_ret
  exact ⟨rfl,below_alloc _ _⟩
end Go.Proofs.YtkmmlimekachbaaGreatDoor
/-
  The function that counting makes: asked for a row, it tells what is counted of it, and keeps it in its map. For every table that calls made.
-/
namespace Go.Proofs.YtkmmlimekachbaaGreatDoor
open Go.RowKit Go.Maps
open Fm (Nd)
def askC (H:Nat):List Value:=[.pointer (some ⟨H+4,0,none⟩),.pointer (some ⟨H+1,0,none⟩),.pointer (some ⟨H,0,none⟩),.pointer (some ⟨H+2,0,none⟩),.pointer (some ⟨H+5,0,none⟩)]
def askV (H:Nat):Value:=.func (.func 174) #[] (askC H).toArray
def askA (H:Nat) (i:Int):Array Value:=#[.int .i64 i,.pointer (some ⟨H+4,0,none⟩),.pointer (some ⟨H+1,0,none⟩),.pointer (some ⟨H,0,none⟩),.pointer (some ⟨H+2,0,none⟩),.pointer (some ⟨H+5,0,none⟩)]
structure Bx (w:World) (H b:Nat) (z:Int) (g:Nat):Prop where
 c0:w.cell? ⟨H,0,none⟩=some (.pointer (some ⟨b,0,none⟩))
 c1:w.cell? ⟨H+1,0,none⟩=some (.int .i64 z)
 c2:w.cell? ⟨H+2,0,none⟩=some (.func (.func g) #[] #[])
 c4:w.cell? ⟨H+4,0,none⟩=some (.map (some (H+3)))
 c5:w.cell? ⟨H+5,0,none⟩=some (askV H)
abbrev At3 (H:Nat) (k:Nat):Prop:=k=H+3
theorem Bx.kp {w w':World} {H b:Nat} {z:Int} {g:Nat} (h:Bx w H b z g) (k:Kp (At3 H) w w'):Bx w' H b z g :=
 ⟨k.cell h.c0 (by unfold At3;omega),k.cell h.c1 (by unfold At3;omega),k.cell h.c2 (by unfold At3;omega),k.cell h.c4 (by unfold At3;omega),k.cell h.c5 (by unfold At3;omega)⟩
theorem Tb.kp {w w':World} {b m:Nat} {v:Value} {t:List Nd} {S:Nat→Prop} (h:Tb w b m v t) (k:Kp S w w') (hn:∀ k,Ft b m v k→¬ S k):Tb w' b m v t:=h.keep fun i hi=>k.block i (h.foot i hi) (hn i hi)
def cntS (g:Int→Option Value):Nat→Nat
 | 0=>0
 | n+1=>cntS g n+if (g (n:Int)).isSome then 1 else 0
theorem cntS_le (g:Int→Option Value):∀ n,cntS g n≤n
 | 0=>Nat.le_refl _
 | n+1=>by unfold cntS;have:=cntS_le g n;split <;> omega
theorem cntS_out (g:Int→Option Value) (i:Nat) (x:Value):∀ n,n≤i→cntS (updM g (i:Int) x) n=cntS g n
 | 0,_=>rfl
 | n+1,h=>by
  unfold cntS
  rw [cntS_out g i x n (by omega)]
  have e:updM g (i:Int) x (n:Int)=g (n:Int):=if_neg (by omega)
  rw [e]
theorem cntS_in (g:Int→Option Value) (i:Nat) (x:Value) (hg:g (i:Int)=none):∀ n,i<n→cntS (updM g (i:Int) x) n=cntS g n+1
 | 0,h=>absurd h (by omega)
 | n+1,h=>by
  unfold cntS
  by_cases e:i=n
  ·subst e
   rw [cntS_out g i x i (Nat.le_refl _),hg]
   unfold updM
   simp
  ·rw [cntS_in g i x hg n (by omega)]
   have e2:updM g (i:Int) x (n:Int)=g (n:Int):=if_neg (by omega)
   rw [e2]
   omega
def Memo (w:World) (H N:Nat) (vl:Nat→Int):Prop:=∃ g n,Mp w (H+3) n g∧n≤cntS g N∧∀ i x,g i=some x→∃ j:Nat,i=j∧j<N∧x=.int .i64 (vl j)
theorem Memo.later {w w':World} {H N:Nat} {vl:Nat→Int} (h:Memo w H N vl) (hb:Below w.heap.size w w'):Memo w' H N vl:=by
 obtain ⟨g,n,hM,r⟩:=h
 exact ⟨g,n,hM.later hb,r⟩
theorem Memo.same {w w':World} {H N:Nat} {vl:Nat→Int} (h:Memo w H N vl) (hb:w'.heap[H+3]?=w.heap[H+3]?):Memo w' H N vl:=by
 obtain ⟨g,n,hM,r⟩:=h
 exact ⟨g,n,hM.keep hb,r⟩
theorem cntS_same (g:Int→Option Value) (i:Nat) (x:Value) (hg:(g (i:Int)).isSome=true):∀ n,cntS (updM g (i:Int) x) n=cntS g n
 | 0=>rfl
 | n+1=>by
  unfold cntS
  rw [cntS_same g i x hg n]
  by_cases e:n=i
  ·subst e
   have e2:updM g (n:Int) x (n:Int)=some x:=if_pos rfl
   rw [e2,hg]
   rfl
  ·have e2:updM g (i:Int) x (n:Int)=g (n:Int):=if_neg (by omega)
   rw [e2]
theorem Memo.put {w:World} {H N:Nat} {vl:Nat→Int} (h:Memo w H N vl) (hN:N≤1024) (i:Nat) (hi:i<N) :
 ∃ w',(Instr.mapUpdate 228 (.map (some (H+3))) (.int .i64 (i:Int)) (.int .i64 (vl i))).run Tryz.prog w=.ok () w'∧Memo w' H N vl∧Kp (At3 H) w w':=by
 obtain ⟨g,n,hM,h2,h3⟩:=h
 have hle:=cntS_le g N
 obtain ⟨w',hr,hM',hK⟩:=hM.put2 Tryz.underlying228 (by unfold maxLen;omega) (i:=(i:Int)) ⟨by omega,by omega⟩ (.int .i64 (vl i))
 refine ⟨w',hr,⟨_,_,hM',?_,fun j x hx => ?_⟩,hK⟩
 ·cases hg:(g (i:Int)).isSome
  ·rw [cntS_in g i _ (by simpa using hg) N hi];simp;omega
  ·rw [cntS_same g i _ hg N];simp;omega
 ·unfold updM at hx
  split at hx
  ·rename_i e
   exact ⟨i,e,hi,(Option.some.inj hx).symm⟩
  ·exact h3 j x hx
theorem nodeOf_in {t:List Nd} {i:Nat} (h:i<t.length):nodeOf t (i:Int)=Ms.row t i∧Fm.has t (i:Int)=true:=by
 have hh:Fm.has t (i:Int)=true:=Fm.has_iff.2 ⟨by omega,by omega⟩
 refine ⟨?_,hh⟩
 unfold nodeOf
 rw [hh]
 simp
theorem kind_of {t:List Nd} (h:Fm.Ok t) {i:Nat} (hi:i<t.length):((Ms.row t i).k=1∨(Ms.row t i).k=2)∧Fm.jn (Ms.row t i).k=false∨((Ms.row t i).k≠1∧(Ms.row t i).k≠2)∧Fm.jn (Ms.row t i).k=true:=by
 rw [Ms.row_at hi]
 rcases Fm.ok_kind h hi with e | e | e
 ·left;rw [e];exact ⟨by simp,rfl⟩
 ·left;rw [e];exact ⟨by simp,rfl⟩
 ·right;refine ⟨⟨fun e2 => ?_,fun e2 => ?_⟩,e⟩ <;> (rw [e2] at e;cases e)
section
variable {b m:Nat} {v:Value} {t:List Nd} {H:Nat} {z:Int} {f:Int→Int→Int→Int} {gj:Nat} {vl:Nat→Int}
def Asked (w:World) (H N:Nat) (vl:Nat→Int) (i:Nat) (e:Ending) (w':World):Prop:=e=.returned (.int .i64 (vl i))∧Memo w' H N vl∧Kp (At3 H) w w'
set_option maxRecDepth 100000 in
set_option maxHeartbeats 4000000 in
theorem ask_step (hok:Fm.Ok t) (hJ:Joins gj f) (hcj:∀ vs w,(callFunc gj vs).run Tryz.prog w=.ok (.enter gj vs) w) (hvl:vl=Ms.val z f t) (hin:∀ j,j<t.length→0≤vl j∧vl j≤1099511627776) (hFt:∀ k,Ft b m v k→k<H) (i:Nat) (hi:i<t.length)
 (ih:∀ j,j<i→∀ w,Tb w b m v t→Bx w H b z gj→Memo w H t.length vl→Calls Tryz.prog 174 (askA H (j:Int)) w (Asked w H t.length vl j))
 (w:World) (hT:Tb w b m v t) (hB:Bx w H b z gj) (hM:Memo w H t.length vl) :
 Calls Tryz.prog 174 (askA H (i:Int)) w (Asked w H t.length vl i):=by
 have hlen:=hok.len
 have hi64:Fm.i64 (i:Int):=⟨by omega,by omega⟩
 have hm0:=hM
 obtain ⟨g,n,hMp,hn,hgv⟩:=hm0
 have hlk:(Instr.lookup 228 (.map (some (H+3))) (.int .i64 (i:Int)) true).run Tryz.prog w=.ok (.tuple #[(g (i:Int)).getD (.int .i64 0),.bool (g (i:Int)).isSome]) w:=hMp.look Tryz.underlying228 (zero_int w) hi64
 have hc4:=hB.c4
 cases hg:g (i:Int) with
 | some x =>
  obtain ⟨j,hj,_,rfl⟩:=hgv _ _ hg
  obtain rfl:i=j:=by omega
  rw [hg] at hlk
  have hlk2:(Instr.lookup 228 (.map (some (H+3))) (.int .i64 (i:Int)) true).run Tryz.prog w=.ok (.tuple #[.int .i64 (vl i),.bool true]) w:=hlk
  have HM:=show Hid (Memo w H t.length vl) from hM
  clear hlk hMp hgv hM hT hB hvl hin hJ ih hok hcj
  unfold askA Asked
  go_enter Tryz.func174,Tryz.ntmps174
  go_wp2_with fail
  go_ret
  exact ⟨rfl,HM.out,Kp.refl _ _⟩
 | none =>
  rw [hg] at hlk
  have hlk2:(Instr.lookup 228 (.map (some (H+3))) (.int .i64 (i:Int)) true).run Tryz.prog w=.ok (.tuple #[.int .i64 0,.bool false]) w:=hlk
  have hc0:=hB.c0
  have hc1:=hB.c1
  have KN:=show Hid (Calls Tryz.prog 81 #[.pointer (some ⟨b,0,none⟩),.int .i64 (i:Int)] w fun e w'=>e=.returned (.tuple #[ndV (Ms.row t i),.bool true])∧Below w.heap.size w w') from by
   have:=node_any w hT (i:Int)
   rw [(nodeOf_in hi).1,(nodeOf_in hi).2] at this
   exact this
  have HK:=show Hid _ from kind_of hok hi
  have HP:=show Hid (Fm.jn (Ms.row t i).k=true→(Ms.row t i).l.toNat<i∧(Ms.row t i).r.toNat<i∧0≤(Ms.row t i).l∧0≤(Ms.row t i).r) from fun hj=>Ms.parts_lt hok hi hj
  have HV:=show Hid (vl i=if Fm.jn (Ms.row t i).k then f (Ms.row t i).k (vl (Ms.row t i).l.toNat) (vl (Ms.row t i).r.toNat) else z) from by rw [hvl];exact Ms.val_eq hok hi
  have HST:=show Hid (Tb w b m v t∧Bx w H b z gj∧Memo w H t.length vl) from ⟨hT,hB,hM⟩
  have HG:=show Hid (n≤cntS g t.length∧(∀ i x,g i=some x→∃ j:Nat,i=j∧j<t.length∧x=.int .i64 (vl j))∧g (i:Int)=none∧Mp w (H+3) n g) from ⟨hn,hgv,hg,hMp⟩
  have HJ:=show Hid (Joins gj f) from hJ
  have HIN:=show Hid (∀ j,j<t.length→0≤vl j∧vl j≤1099511627776) from hin
  have HF:=show Hid (∀ k,Ft b m v k→k<H) from hFt
  have IH:=show Hid (∀ j,j<i→∀ w,Tb w b m v t→Bx w H b z gj→Memo w H t.length vl→Calls Tryz.prog 174 (askA H (j:Int)) w (Asked w H t.length vl j)) from ih
  clear hlk hMp hgv hM hT hB hvl hin hJ ih hok hn hg hFt
  generalize Ms.row t i=nd at *
  obtain ⟨nk,ns,nl,nr⟩:=nd
  unfold ndV at KN
  simp only at KN HK HP HV
  unfold askA Asked
  go_enter Tryz.func174,Tryz.ntmps174
  go_wp2_with fail
  refine KN.out.mono ?_
  rintro e w1 ⟨rfl,hb1⟩
  have HB1:=show Hid (Below w.heap.size w w1) from hb1
  clear hlk2 KN hb1 hc4 hc0 hc1
  have hs1:=HB1.out.size
  rcases HK.out with ⟨hk,hj⟩ | ⟨hk,hj⟩
  ·have hv:=HV.out
   rw [hj] at hv
   simp only [Bool.false_eq_true,if_false] at hv
   have HV2:=show Hid (vl i=z) from hv
   have HC4:=show Hid (∀ w',Below w.heap.size w w'→w'.cell? ⟨H+4,0,none⟩=some (.map (some (H+3)))) from fun w' hb=>(HST.out.2.1.kp (Kp.of_below hb)).c4
   clear hv HK HV HP IH HJ HIN
   have hc4:=HC4.out (w1.alloc (Obj.cells #[.int .i64 nk,.string ns,.int .i64 nl,.int .i64 nr] 140)) (HB1.out.alloc HB1.out.size _)
   have HMP:=show Hid (Memo (w1.alloc (Obj.cells #[.int .i64 nk,.string ns,.int .i64 nl,.int .i64 nr] 140)) H t.length vl) from HST.out.2.2.later (HB1.out.alloc HB1.out.size _)
   rcases hk with rfl | rfl
   ·obtain ⟨w2,hup,hM2,hK2⟩:=HMP.out.put hlen i hi
    rw [HV2.out] at hup
    have HE:=show Hid (Memo w2 H t.length vl∧Kp (At3 H) w w2) from ⟨hM2,((Kp.of_below HB1.out).alloc _).then hK2⟩
    clear hM2 hK2
    go_wp2_with fail
    go_ret
    exact ⟨by rw [HV2.out];rfl,HE.out⟩
   ·obtain ⟨w2,hup,hM2,hK2⟩:=HMP.out.put hlen i hi
    rw [HV2.out] at hup
    have HE:=show Hid (Memo w2 H t.length vl∧Kp (At3 H) w w2) from ⟨hM2,((Kp.of_below HB1.out).alloc _).then hK2⟩
    clear hM2 hK2
    go_wp2_with fail
    go_ret
    exact ⟨by rw [HV2.out];rfl,HE.out⟩
  ·have hv:=HV.out
   rw [hj] at hv
   simp only [if_true] at hv
   obtain ⟨hpl,hpr,hl0,hr0⟩:=HP.out hj
   obtain ⟨jl,rfl⟩:∃ jl:Nat,nl=jl:=⟨nl.toNat,by omega⟩
   obtain ⟨jr,rfl⟩:∃ jr:Nat,nr=jr:=⟨nr.toNat,by omega⟩
   simp only [Int.toNat_natCast] at hpl hpr hv
   have HV2:=show Hid (vl i=f nk (vl jl) (vl jr)) from hv
   obtain ⟨w2,hw2⟩:∃ w2,w2=w1.alloc (Obj.cells #[.int .i64 nk,.string ns,.int .i64 (jl:Int),.int .i64 (jr:Int)] 140):=⟨_,rfl⟩
   have HB2:=show Hid (Kp (At3 H) w w2∧Memo w2 H t.length vl∧N4 w2 w1.heap.size ⟨nk,ns,jl,jr⟩∧H+5<w1.heap.size) from by
    have hb2:Below w.heap.size w w2:=by rw [hw2];exact HB1.out.alloc HB1.out.size _
    refine ⟨Kp.of_below hb2,HST.out.2.2.later hb2,by rw [hw2];exact heap_alloc_new _ _,?_⟩
    have:=World.block_lt_of_cell? w _ HST.out.2.1.c5
    simp only at this
    omega
   have HSX:=show Hid (∀ wx,Memo wx H t.length vl∧Kp (At3 H) w2 wx→Bx wx H b z gj∧N4 wx w1.heap.size ⟨nk,ns,jl,jr⟩∧Tb wx b m v t∧Kp (At3 H) w wx) from fun wx hx=>by
    have hk:=HB2.out.1.then hx.2
    exact ⟨HST.out.2.1.kp hk,(hx.2.block _ (lt_of_block HB2.out.2.2.1) (by have:=HB2.out.2.2.2;unfold At3;omega)).trans HB2.out.2.2.1,HST.out.1.kp hk (fun k hf=>by have:=HF.out k hf;unfold At3;omega),hk⟩
   have hnk1:(nk != 1)=true:=by simpa using hk.1
   have hnk2:(nk != 2)=true:=by simpa using hk.2
   clear hv HK HV HP hk hj HB1
   go_wp2_with fail
   rw [← hw2]
   clear hw2
   refine wp_region_held_drew (S:=fun wx=>Memo wx H t.length vl∧Kp (At3 H) w2 wx) (by kernel_rfl) ⟨HB2.out.2.1.same rfl,(Kp.refl _ _).drew⟩ (fun hH => ?_)
   refine takeV 0 (some 36) (.func (.func gj) #[] #[]) rfl rfl (by kernel_rfl) (by kernel_rfl) (by kernel_rfl) (fun _ _ _ h=>h) rfl (fun wx hx=>by have hcc:=(HSX.out wx hx).1.c2;go_simp) hH ?_
   simp only [Act.put,List.setIfInBounds_toArray,List.set_cons_zero,List.set_cons_succ]
   refine takeV 1 (some 37) (.pointer (some ⟨w1.heap.size,0,none⟩)) rfl rfl (by kernel_rfl) (by kernel_rfl) (by kernel_rfl) (fun _ _ _ h=>h) rfl (fun wx hx=>by go_simp) hH ?_
   simp only [Act.put,List.setIfInBounds_toArray,List.set_cons_zero,List.set_cons_succ]
   refine takeV 2 (some 38) (.int .i64 nk) rfl rfl (by kernel_rfl) (by kernel_rfl) (by kernel_rfl) (fun _ _ _ h=>h) rfl (fun wx hx=>by have hcc:=(HSX.out wx hx).2.1.c0;go_simp) hH ?_
   simp only [Act.put,List.setIfInBounds_toArray,List.set_cons_zero,List.set_cons_succ]
   refine takeV 3 (some 39) (askV H) rfl rfl (by kernel_rfl) (by kernel_rfl) (by kernel_rfl) (fun _ _ _ h=>h) rfl (fun wx hx=>by have hcc:=(HSX.out wx hx).1.c5;go_simp) hH ?_
   simp only [Act.put,List.setIfInBounds_toArray,List.set_cons_zero,List.set_cons_succ]
   refine takeV 4 (some 40) (.pointer (some ⟨w1.heap.size,2,none⟩)) rfl rfl (by kernel_rfl) (by kernel_rfl) (by kernel_rfl) (fun _ _ _ h=>h) rfl (fun wx hx=>by go_simp) hH ?_
   simp only [Act.put,List.setIfInBounds_toArray,List.set_cons_zero,List.set_cons_succ]
   refine takeV 5 (some 41) (.int .i64 (jl:Int)) rfl rfl (by kernel_rfl) (by kernel_rfl) (by kernel_rfl) (fun _ _ _ h=>h) rfl (fun wx hx=>by have hcc:=(HSX.out wx hx).2.1.c2;go_simp) hH ?_
   simp only [Act.put,List.setIfInBounds_toArray,List.set_cons_zero,List.set_cons_succ]
   refine takeV 7 (some 43) (askV H) rfl rfl (by kernel_rfl) (by kernel_rfl) (by kernel_rfl) (fun _ _ _ h=>h) rfl (fun wx hx=>by have hcc:=(HSX.out wx hx).1.c5;go_simp) hH ?_
   simp only [Act.put,List.setIfInBounds_toArray,List.set_cons_zero,List.set_cons_succ]
   refine takeV 8 (some 44) (.pointer (some ⟨w1.heap.size,3,none⟩)) rfl rfl (by kernel_rfl) (by kernel_rfl) (by kernel_rfl) (fun _ _ _ h=>h) rfl (fun wx hx=>by go_simp) hH ?_
   simp only [Act.put,List.setIfInBounds_toArray,List.set_cons_zero,List.set_cons_succ]
   refine takeV 9 (some 45) (.int .i64 (jr:Int)) rfl rfl (by kernel_rfl) (by kernel_rfl) (by kernel_rfl) (fun _ _ _ h=>h) rfl (fun wx hx=>by have hcc:=(HSX.out wx hx).2.1.c3;go_simp) hH ?_
   simp only [Act.put,List.setIfInBounds_toArray,List.set_cons_zero,List.set_cons_succ]
   refine takeF 6 (some 42) (by kernel_rfl) rfl rfl rfl 174 _ _ _ rfl [.int .i64 (jl:Int)] (askC H) rfl rfl (fun _ _=>Tryz.call174 _ _) ?_
   refine (IH.out jl (by omega) _ (HSX.out _ hH).2.2.1 (HSX.out _ hH).1 hH.1).mono ?_
   rintro e w42 ⟨rfl,hm42,hk42⟩
   refine ⟨_,rfl,⟨hm42,hH.2.then hk42⟩,fun hH1 => ?_⟩
   simp only [Act.put,List.setIfInBounds_toArray,List.set_cons_zero,List.set_cons_succ]
   refine takeF 10 (some 46) (by kernel_rfl) rfl rfl rfl 174 _ _ _ rfl [.int .i64 (jr:Int)] (askC H) rfl rfl (fun _ _=>Tryz.call174 _ _) ?_
   refine (IH.out jr (by omega) _ (HSX.out _ hH1).2.2.1 (HSX.out _ hH1).1 hH1.1).mono ?_
   rintro e w46 ⟨rfl,hm46,hk46⟩
   refine ⟨_,rfl,⟨hm46,hH1.2.then hk46⟩,fun hH2 => ?_⟩
   simp only [Act.put,List.setIfInBounds_toArray,List.set_cons_zero,List.set_cons_succ]
   refine takeF 11 (some 47) (by kernel_rfl) rfl rfl rfl gj _ _ _ rfl [.int .i64 nk,.int .i64 (vl jl),.int .i64 (vl jr)] [] rfl rfl (fun _ _=>hcj _ _) ?_
   refine (HJ.out _ _ _ _ (HIN.out jl (by omega)) (HIN.out jr (by omega))).mono ?_
   rintro e w3 ⟨rfl,hb3⟩
   refine ⟨_,rfl,⟨hH2.1.later hb3,hH2.2.belows hb3⟩,fun hH3 => ?_⟩
   simp only [Act.put,List.setIfInBounds_toArray,List.set_cons_zero,List.set_cons_succ]
   refine takeV 12 (some 10) (.int .i64 (f nk (vl jl) (vl jr))) rfl rfl (by kernel_rfl) (by kernel_rfl) (by kernel_rfl) (fun _ _ _ h=>h) rfl (fun wx hx=>by go_simp) hH3 ?_
   simp only [Act.put,List.setIfInBounds_toArray,List.set_cons_zero,List.set_cons_succ]
   refine wpAnyH_done (by kernel_rfl) ?_ _
   have HS:=show Hid _ from hH3
   have hc4:=(HSX.out _ hH3).1.c4
   rw [← HV2.out]
   obtain ⟨w4,hup,hM4,hK4⟩:=hH3.1.put hlen i hi
   have HE:=show Hid (Memo w4 H t.length vl∧Kp (At3 H) w w4) from ⟨hM4,(HSX.out _ HS.out).2.2.2.then hK4⟩
   clear hM4 hK4 hH hH1 hH2 hH3
   go_wp2_with fail
   go_ret
   exact ⟨rfl,HE.out⟩
end
end Go.Proofs.YtkmmlimekachbaaGreatDoor
/-
  The calls refused, counting, measured, and by them Size, Depth, Weight and Grade. For every table that calls made, every number.
-/
namespace Go.Proofs.YtkmmlimekachbaaGreatDoor
open Go.RowKit Go.Maps
open Fm (Nd)
section
variable {b m:Nat} {v:Value} {t:List Nd}
def refs (t:List Nd) (ids:List Int):Int:=if ids.all (Fm.has t) then 0 else 31
set_option maxRecDepth 100000 in
set_option maxHeartbeats 1000000 in
theorem refused_any (w:World) (hT:Tb w b m v t) (iv:Value) (ids:List Int) (hv:IsL w iv ids) :
 Calls Tryz.prog 85 #[.pointer (some ⟨b,0,none⟩),iv] w fun e w'=>e=.returned (.int .i64 (refs t ids))∧Below w.heap.size w w':=by
 have KB:=show Hid (Calls Tryz.prog 98 #[.pointer (some ⟨b,0,none⟩),.int .i64 (-1)] w fun e w'=>∃ p n c,e=.returned (.tuple #[.slice p n c,.int .i64 31])∧Below w.heap.size w w') from (below_any w hT (-1)).mono fun e w' ⟨v',he,hi,hb⟩=>by
  have h0:belowR t (-1)=([],31):=by
   unfold belowR
   rw [if_neg (by simp [Fm.has])]
  rw [h0] at he hi
  obtain ⟨p,c,hv',_⟩:∃ p c,v'=.slice p 0 c∧True:=by
   rcases hi.2 with ⟨rfl,_⟩ | ⟨g,cap,cur,rfl,_⟩
   ·exact ⟨_,_,rfl,trivial⟩
   ·exact ⟨_,_,rfl,trivial⟩
  subst hv'
  exact ⟨p,0,c,he,hb⟩
 have KN:=show Hid (∀ w' (i:Int),Below w.heap.size w w'→Calls Tryz.prog 81 #[.pointer (some ⟨b,0,none⟩),.int .i64 i] w' fun e w''=>(∃ k s l r,e=.returned (.tuple #[.agg #[.int .i64 k,.string s,.int .i64 l,.int .i64 r],.bool (Fm.has t i)]))∧Below w.heap.size w w'') from fun w' i hb=>(node_any w' (hT.later hb) i).mono fun e w'' ⟨he,hb'⟩=>⟨⟨_,_,_,_,he⟩,hb.trans (hb'.mono hb.size)⟩
 obtain ⟨p,c,rfl,hlen,hcell⟩:=hv
 have HC:=show Hid (∀ w',Below w.heap.size w w'→∀ k (hk:k<ids.length),∃ b o,p=some ⟨b,o,none⟩∧w'.cell? ⟨b,o+k,none⟩=some (.int .i64 ids[k])) from fun w' hb k hk=>by
  obtain ⟨g,o,hp,hc⟩:=hcell k hk
  exact ⟨g,o,hp,(hb.cell (p:=⟨g,_,none⟩) (World.block_lt_of_cell? w _ hc)).trans hc⟩
 have HY:=show Hid ((∀ k (hk:k<ids.length),Fm.has t ids[k]=true)→refs t ids=0) from fun h=>by
  unfold refs
  rw [if_pos]
  rw [List.all_eq_true]
  intro x hx
  obtain ⟨k,hk,rfl⟩:=List.mem_iff_getElem.1 hx
  exact h k hk
 have HN:=show Hid (∀ k (hk:k<ids.length),Fm.has t ids[k]=false→refs t ids=31) from fun k hk h=>by
  unfold refs
  rw [if_neg]
  intro ha
  rw [List.all_eq_true] at ha
  rw [ha _ (List.getElem_mem hk)] at h
  cases h
 generalize refs t ids=ans at *
 clear hcell hT
 go_enter Tryz.func85,Tryz.ntmps85
 go_wp2_with fail
 refine KB.out.mono ?_
 rintro e w1 ⟨p1,n1,c1,rfl,hb1⟩
 have HB1:=show Hid (Below w.heap.size w w1) from hb1
 clear hb1 KB
 go_wp2_with fail
 go_loopw [20] (fun i wr=>∃ k:Nat,k≤ids.length∧i=.int .i64 (k:Int)∧Hid (Below w.heap.size w wr)∧Hid (∀ j (hj:j<ids.length),j<k→Fm.has t ids[j]=true)) (fun i _=>ids.length - (intOf i).toNat)
 case atStart=>exact ⟨0,by omega,rfl,HB1,fun j _ h=>by omega⟩
 case round =>
  obtain ⟨k,hk,rfl,HBr,HA⟩:=hrel
  clear HB1
  by_cases hlt:k<ids.length
  ·obtain ⟨g,o,rfl,hc⟩:=HC.out wr HBr.out k hlt
   have hki:(k:Int)<(ids.length:Int):=by omega
   have HNK:=show Hid (Fm.has t ids[k]=false→ans=31) from HN.out k hlt
   have HYK:=show Hid (Fm.has t ids[k]=true→∀ j (hj:j<ids.length),j<k+1→Fm.has t ids[j]=true) from fun h j hj hjk=>by
    by_cases e:j=k
    ·subst e;exact h
    ·exact HA.out j hj (by omega)
   have KNK:=show Hid (Calls Tryz.prog 81 #[.pointer (some ⟨b,0,none⟩),.int .i64 ids[k]] wr fun e w''=>(∃ k' s l r,e=.returned (.tuple #[.agg #[.int .i64 k',.string s,.int .i64 l,.int .i64 r],.bool (Fm.has t ids[k])]))∧Below w.heap.size w w'') from KN.out wr ids[k] HBr.out
   clear HN HY HC HA KN
   generalize ids[k]=x at *
   go_wp2_with fail
   refine KNK.out.mono ?_
   rintro e w2 ⟨⟨nk,ns,nl,nr,rfl⟩,hb2⟩
   have HB2:=show Hid (Below w.heap.size w w2) from hb2
   clear hb2 KNK HBr
   generalize Fm.has t x=hx at *
   cases hx
   ·have hr:=HNK.out rfl
    subst hr
    clear HYK HNK hc
    go_wp2_with fail
    go_ret
    exact ⟨rfl,HB2.out.alloc HB2.out.size _⟩
   ·have HA2:=show Hid _ from HYK.out rfl
    clear HYK HNK hc
    go_wp2_with fail
    go_roundw
    case rel=>exact ⟨k+1,by omega,by go_num,HB2.out.alloc HB2.out.size _,HA2⟩
    case measure=>first | (simp [intOf];done) | (simp [intOf];omega)
  ·have hr:=HY.out fun j hj=>HA.out j hj (by omega)
   subst hr
   clear HN HY HC KN
   go_wp2_with fail
   go_ret
   exact ⟨rfl,HBr.out⟩
variable {H:Nat} {z:Int} {f:Int→Int→Int→Int} {gj:Nat} {vl:Nat→Int}
theorem ask_any (hok:Fm.Ok t) (hJ:Joins gj f) (hcj:∀ vs w,(callFunc gj vs).run Tryz.prog w=.ok (.enter gj vs) w) (hvl:vl=Ms.val z f t) (hin:∀ j,j<t.length→0≤vl j∧vl j≤1099511627776) (hFt:∀ k,Ft b m v k→k<H) (i:Nat) :
 i<t.length→∀ w,Tb w b m v t→Bx w H b z gj→Memo w H t.length vl→Calls Tryz.prog 174 (askA H (i:Int)) w (Asked w H t.length vl i):=by
 induction i using Nat.strongRecOn with
 | _ i ih=>exact fun hi w hT hB hM=>ask_step hok hJ hcj hvl hin hFt i hi (fun j hj w hT hB hM=>ih j hj (by omega) w hT hB hM) w hT hB hM
theorem cell_newE (w:World) (k:Nat) (hk:k=w.heap.size) (x:Value) (ty:TypeId):(w.alloc (.cells #[x] ty)).cell? ⟨k,0,none⟩=some x:=by
 subst hk
 rw [cell_of_row _ _ 0 _ _ _ (heap_alloc_new _ _)]
 rfl
theorem cell_alloc {w:World} {k o:Nat} {x:Value} (h:w.cell? ⟨k,o,none⟩=some x) (ob:Obj):(w.alloc ob).cell? ⟨k,o,none⟩=some x:=(Kp.of_below (S:=fun _=>False) (below_alloc w ob)).cell h (fun h=>h)
theorem mp_madeE (w:World) (k:Nat) (hk:k=w.heap.size):Mp (w.alloc (.map #[] 0)) k 0 (fun _=>none):=by subst hk;exact mp_made w
theorem Mp.alloc {w:World} {m n:Nat} {g:Int→Option Value} (h:Mp w m n g) (o:Obj):Mp (w.alloc o) m n g:=h.later (below_alloc w o)
def Ctd (w:World) (b:Nat) (z:Int) (gj:Nat) (e:Ending) (w':World):Prop:=e=.returned (askV w.heap.size)∧Bx w' w.heap.size b z gj∧(∀ N vl,Memo w' w.heap.size N vl)∧Below w.heap.size w w'
set_option maxRecDepth 100000 in
set_option maxHeartbeats 1000000 in
theorem counting_any (w:World) (b:Nat) (z:Int) (gj:Nat) :
 Calls Tryz.prog 132 #[.pointer (some ⟨b,0,none⟩),.int .i64 z,.func (.func gj) #[] #[]] w (Ctd w b z gj):=by
 have hmm:=@run_makeMap Tryz.prog
 unfold Ctd askV askC
 go_enter Tryz.func132,Tryz.ntmps132
 go_wp2
 go_ret
 have hb:∀ {w':World} (o:Obj),Below w.heap.size w w'→Below w.heap.size w (w'.alloc o):=fun o h=>h.alloc h.size o
 refine ⟨rfl,⟨?_,?_,?_,?_,?_⟩,fun N vl=>⟨fun _=>none,0,?_,Nat.zero_le _,fun _ _ h=>by cases h⟩,hb _ (hb _ (hb _ (hb _ (hb _ (hb _ (Below.refl _ _))))))⟩
 ·exact cell_alloc (cell_alloc (cell_alloc (cell_alloc (cell_alloc (cell_newE _ _ rfl _ _) _) _) _) _) _
 ·exact cell_alloc (cell_alloc (cell_alloc (cell_alloc (cell_newE _ _ (by simp) _ _) _) _) _) _
 ·exact cell_alloc (cell_alloc (cell_alloc (cell_newE _ _ (by simp) _ _) _) _) _
 ·exact cell_alloc (cell_newE _ _ (by simp) _ _) _
 ·exact cell_newE _ _ (by simp) _ _
 ·exact ((mp_madeE _ _ (by simp)).alloc _).alloc _
def Counts (gc:Nat) (z:Int) (gj:Nat):Prop:=∀ (w:World) (b:Nat),Calls Tryz.prog gc #[.pointer (some ⟨b,0,none⟩)] w (Ctd w b z gj)
set_option maxHeartbeats 1000000 in
theorem weights_any:Counts 86 1 133:=by
 intro w b
 have K:=show Hid (Calls Tryz.prog 132 #[.pointer (some ⟨b,0,none⟩),.int .i64 1,.func (.func 133) #[] #[]] w (Ctd w b 1 133)) from counting_any w b 1 _
 go_enter Tryz.func86,Tryz.ntmps86
 go_wp2_with fail
 refine K.out.mono ?_
 rintro e w' ⟨rfl,h⟩
 have HH:=show Hid _ from h
 clear h K
 unfold Ctd askV askC
 go_wp2_with fail
 go_ret
 exact ⟨rfl,HH.out⟩
end
end Go.Proofs.YtkmmlimekachbaaGreatDoor
/-
  Pairs of counts: the calls plus and turned. For counts from 0 to 2^40.
-/
namespace Go.Proofs.YtkmmlimekachbaaGreatDoor
open Go.RowKit Go.Maps
open Fm (Nd)
def sdV (a:Int × Int):Value:=.agg #[.int .i64 a.1,.int .i64 a.2]
section
variable {w w':World} {g:Nat} {a:Int × Int}
end
def In (a:Int × Int):Prop:=(0≤a.1∧a.1≤1099511627776)∧(0≤a.2∧a.2≤1099511627776)
def StepH (ops:Array Oper) (Q:Exit→Act→World→Prop) (S:World→Prop) (fuel:Nat) (listed:Array Bool) (a:Act) (w:World) (i:Nat) (oi:Oper):Prop :=
 ∀ K':Act→World→Prop,Shut (∀ a w,S w→(S w→wpAnyH Tryz.prog .any ops Q S fuel (listed.setIfInBounds i true) a w)→K' a w)→if Region.wanted oi (yielded ops a.tmps)=true then Oper.wp Tryz.prog oi a w K' Q else K' (a.put oi.dst undef) w
section
variable {ops:Array Oper} {Q:Exit→Act→World→Prop} {S:World→Prop} {fuel:Nat} {listed:Array Bool} {a:Act} {w:World}
theorem oneH (i:Nat) {oi:Oper} (hr:Region.ready .any ops listed=[i]) (hi:ops[i]?=some oi) (h:StepH ops Q S fuel listed a w i oi):wpAnyH Tryz.prog .any ops Q S (fuel+1) listed a w :=
 wpAnyH_ready hr (by simp) (AllReadyH.cons hi h AllReadyH.nil)
theorem twoH (i j:Nat) {oi oj:Oper} (hr:Region.ready .any ops listed=[i,j]) (hi:ops[i]?=some oi) (hj:ops[j]?=some oj) (h:StepH ops Q S fuel listed a w i oi) (h2:StepH ops Q S fuel listed a w j oj):wpAnyH Tryz.prog .any ops Q S (fuel+1) listed a w :=
 wpAnyH_ready hr (by simp) (AllReadyH.cons hi h (AllReadyH.cons hj h2 AllReadyH.nil))
theorem stepW (i:Nat) (d:Option Tmp) {oi:Oper} (v:Value) (w':World) (hd:oi.dst=d) (hw:Region.wanted oi (yielded ops a.tmps)=true) (hrun:(execOp a.eval oi).run Tryz.prog w=.ok (.value v) w') (hS:S w')
 (h:S w'→wpAnyH Tryz.prog .any ops Q S fuel (listed.setIfInBounds i true) (a.put d v) w'):StepH ops Q S fuel listed a w i oi:=by
 subst hd
 intro K hK
 rw [if_pos hw]
 unfold Oper.wp
 rw [hrun,Oper.upon_value]
 exact hK.out _ _ hS h
theorem stepU (i:Nat) {oi:Oper} (w':World) (hd:oi.dst=none) (hw:Region.wanted oi (yielded ops a.tmps)=true) (hrun:(execOp a.eval oi).run Tryz.prog w=.ok .skip w') (hS:S w')
 (h:S w'→wpAnyH Tryz.prog .any ops Q S fuel (listed.setIfInBounds i true) a w'):StepH ops Q S fuel listed a w i oi:=by
 intro K hK
 rw [if_pos hw]
 unfold Oper.wp
 rw [hrun,Oper.upon_skip,hd]
 exact hK.out _ _ hS h
theorem stepC (i:Nat) (d:Option Tmp) {oi:Oper} (hd:oi.dst=d) (hw:Region.wanted oi (yielded ops a.tmps)=true) (f:FuncId) (xs:List Operand) (ts:Array TypeId) (ho:oi.op=Op.call { callee:=Callee.value (Operand.func f),args:=xs.toArray,argTypes:=ts }) (vs:List Value) (hv:xs.map a.eval=vs)
 (hcf:∀ vs w,(callFunc f vs).run Tryz.prog w=.ok (.enter f vs) w)
 (h:Calls Tryz.prog f vs.toArray w fun e w'=>∃ v,e=.returned v∧S w'∧(S w'→wpAnyH Tryz.prog .any ops Q S fuel (listed.setIfInBounds i true) (a.put d v) w')):StepH ops Q S fuel listed a w i oi:=by
 subst hd
 subst hv
 intro K hK
 rw [if_pos hw]
 have hrun:(execOp a.eval oi).run Tryz.prog w=.ok (.enter f (xs.map a.eval).toArray) w:=by
  simp [execOp,ho,resolve,invoke,Deferred.ofValue,Act.eval,hcf]
 unfold Oper.wp
 rw [hrun,Oper.upon_enter]
 refine h.mono ?_
 rintro e w' ⟨v,rfl,hS,hn⟩
 exact hK.out _ _ hS hn
end
end Go.Proofs.YtkmmlimekachbaaGreatDoor
/-
  slices.Backward over a row of numbers: for every loop that turns nothing but one block and what it made itself; a region that draws its order, in a round of such a loop. No condition.
-/
namespace Go.Proofs.YtkmmlimekachbaaGreatDoor
open Go.RowKit Go.Shelf Go.Maps
open Fm (Nd)
attribute [local go_sem] Oper.semAt_some
section
variable {P:Program} {ops:Array Oper} {Q:Exit→Act→World→Prop} {l n:Nat}
end
abbrev KB (n m:Nat):World→World→Prop:=Kp (fun k=>k=m∨n≤k)
abbrev It (N:Nat):=Int × Fin N
structure Bk {N:Nat} (W:World) (g n₁ m:Nat) (L:List (It N)):Prop where
 box:∃ p c,W.cell? ⟨g,0,none⟩=some (.slice p L.length c)∧∀ k (hk:k<L.length),∃ b o,p=some ⟨b,o,none⟩∧W.cell? ⟨b,o+k,none⟩=some (.int .i64 ((L[k].2.val:Nat):Int))∧b<n₁∧b≠m
 lt:g<n₁∧g≠m
 idx:∀ k (hk:k<L.length),L[k].1=(k:Int)
 len:L.length≤1024
theorem Bk.kb {N:Nat} {W W':World} {g n₁ m:Nat} {L:List (It N)} (h:Bk W g n₁ m L) (k:KB n₁ m W W'):Bk W' g n₁ m L:=by
 obtain ⟨⟨p,c,h1,h2⟩,hl,h3,h4⟩:=h
 refine ⟨⟨p,c,k.cell h1 (by omega),fun j hj => ?_⟩,hl,h3,h4⟩
 obtain ⟨b,o,hp,hc,hb⟩:=h2 j hj
 exact ⟨b,o,hp,k.cell hc (by omega),hb⟩
end Go.Proofs.YtkmmlimekachbaaGreatDoor

import Derived.Test.YtkpbpecikibohaaGreatDoorFG3
import Derived.Test.YtkpbpecikibohaaGreatDoorPG
import Derived.Deep.RegionHeld3
import Derived.Laws.EntriesVeiled
import Derived.RangeFuncNested
import Derived.RangeFuncBound
import Derived.RangeFuncCalls
import Derived.RangeFuncLeaves
import Derived.RangeFuncFrom
import Derived.RangeFuncWrites
import Derived.RangeFuncBox
import Derived.Shelf.Abstract
import Derived.Shelf.RegionOpen
import Derived.OwnWalkIn
import Derived.TacticsInMore
import Derived.LoopNIn
import Derived.LoopIn
set_option linter.unusedSimpArgs false
namespace Go.Proofs.YtkpbpecikibohaaGreatDoor
open Go.RowKit Go.Maps
open Fm (Nd)
theorem Kp.mono {S S':Nat->Prop} {w w':World} (h:Kp S w w') (hS:∀ k,S k->S' k):Kp S' w w':=⟨h.os,h.tape,h.output,h.size,fun k hk hn=>h.block k hk fun h'=>hn (hS k h')⟩
theorem Kp.cell {S:Nat->Prop} {w w':World} (h:Kp S w w') {b o:Nat} {x:Value} (hc:w.cell? ⟨b,o,none⟩=some x) (hn:¬ S b):w'.cell? ⟨b,o,none⟩=some x:=by
 have hlt:b<w.heap.size:=World.block_lt_of_cell? w _ hc
 rw[<- hc]
 exact World.cell?_of_block (a:=⟨b,o,none⟩) (h.block b hlt hn)
theorem Kp.then {S:Nat->Prop} {a b c:World} (h:Kp S a b) (k:Kp S b c):Kp S a c:=h.trans k fun _ h=>Or.inl h
theorem Kp.belows {S:Nat->Prop} {a b c:World} (h:Kp S a b) (k:Below b.heap.size b c):Kp S a c:=h.then (Kp.of_below k)
theorem Kp.alloc {S:Nat->Prop} {a b:World} (h:Kp S a b) (o:Obj):Kp S a (b.alloc o):=h.belows (ak _ _)
def yM:Value->Option (DataW Value × List MemPlace):=fun v=>some (.held v,[])
def kI (i:Int):Lit:=.int .i64 i
theorem Eo {i:Int} (h:Fm.i64 i):keyOf Tryz.prog 3 (.int .i64 i)=some (kI i):=keyOf_int_mk Tryz.underlying3 (Co h)
theorem MO {i:Int} (h:Fm.i64 i):WideAt.IsKeyLit (kI i):=(int_keyed Tryz.underlying3).key (Eo h)
theorem VD {i j:Int} (h:kI i=kI j):i=j:=by unfold kI at h;cases h;rfl
def VE (g:Int->Option Value) (i:Int) (x:Value):Int->Option Value:=fun j=>if j=i then some x else g j
def Mp (w:World) (m n:Nat) (g:Int->Option Value):Prop :=
 ∃ D:DataW Value,w.ownsMap Tryz.prog 3 yM m n D/\∀ i,Fm.i64 i->Maps.has D (kI i)=(g i).isSome/\∀ z,D.atKey (kI i) z=((g i).map DataW.held).getD z
section
variable {w w':World} {m n:Nat} {g:Int->Option Value}
theorem Mp.lt (h:Mp w m n g):m<w.heap.size:=by obtain⟨D,hD,_⟩:=h;exact hD.lt
theorem Mp.keep (h:Mp w m n g) (hk:w'.heap[m]?=w.heap[m]?):Mp w' m n g:=by
 obtain⟨D,⟨es,cl,hb,r⟩,hg⟩:=h
 exact⟨D,⟨es,cl,hk.trans hb,r⟩,hg⟩
theorem Mp.later (h:Mp w m n g) (hb:Below w.heap.size w w'):Mp w' m n g:=h.keep (hb.block m h.lt)
theorem Mp.mono (h:Mp w m n g) {n':Nat} (hn:n<=n'):Mp w m n' g:=by
 obtain⟨D,hD,hg⟩:=h
 exact⟨D,hD.mono hn,hg⟩
theorem Mp.look (h:Mp w m n g) {t e:TypeId} (ht:Tryz.prog.underlying t=some (.map 3 e)) {z:Value} (hz:(zeroValue e).run Tryz.prog w=.ok z w) {i:Int} (hi:Fm.i64 i) :
 (Instr.lookup t (.map (some m)) (.int .i64 i) true).run Tryz.prog w=.ok (.tuple #[(g i).getD z,.bool (g i).isSome]) w:=by
 obtain⟨D,hD,hg⟩:=h
 obtain⟨v,ps,hr,hv⟩:=hD.look_ok (int_keyed Tryz.underlying3) ht hz (zd:=.held z) (zp:=[]) rfl (Eo hi)
 rw[hr,(hg i hi).1]
 have e1:(DataW.held v:DataW Value)=D.atKey (kI i) (.held z):=by
  unfold yM at hv
  exact congrArg Prod.fst (Option.some.inj hv)
 rw[(hg i hi).2] at e1
 cases hx:g i with
 | none=>rw[hx] at e1;cases e1;rfl
 | some x=>rw[hx] at e1;cases e1;rfl
theorem Mp.put (h:Mp w m n g) {t e:TypeId} (ht:Tryz.prog.underlying t=some (.map 3 e)) (hn:n<maxLen) {i:Int} (hi:Fm.i64 i) (x:Value) :
 ∃ w',(Instr.mapUpdate t (.map (some m)) (.int .i64 i) x).run Tryz.prog w=.ok () w'/\Mp w' m (n+1) (VE g i x)/\Kp (fun k=>k=m) w w':=by
 obtain⟨D,hD,hg⟩:=h
 obtain⟨w',hr,ho,hgr⟩:=hD.update (int_keyed Tryz.underlying3) ht hn (Eo hi) (val:=x) (d:=.held x) (ps:=[]) rfl
 refine⟨w',hr,⟨_,ho,fun j hj => ?_⟩,⟨hgr.os,hgr.tape,hgr.output,hgr.size,fun k hk hne=>hgr.block k hk (fun e=>hne (Option.some.inj e))⟩⟩
 unfold VE
 by_cases e:j=i
 ·subst e
  rw[if_pos rfl]
  exact⟨has_put_same hD.isMap (MO hi) _,fun z=>atKey_put_same hD.isMap (MO hi) _ _⟩
 ·rw[if_neg e]
  have hne:kI j≠kI i:=fun h=>e (VD h)
  exact⟨(has_put_other hne _).trans (hg j hj).1,fun z=>(atKey_put_other hne _ _).trans ((hg j hj).2 z)⟩
end
section
variable {ops:Array Oper} {Q:Exit->Act->World->Prop} {S:World->Prop} {fuel:Nat} {listed:Array Bool} {a:Act} {w:World}
end
def nY (w:World) (v:Value) (l:List Int):Prop :=
 ∃ p c,v=.slice p l.length c/\l.length<=9223372036854775807/\∀ k (hk:k<l.length),∃ b o,p=some ⟨b,o,none⟩/\w.cell? ⟨b,o+k,none⟩=some (.int .i64 l[k])
theorem nY.later {w w':World} {v:Value} {l:List Int} (h:nY w v l) (hb:Below w.heap.size w w'):nY w' v l:=by
 obtain⟨p,c,hv,h1,h2⟩:=h
 refine⟨p,c,hv,h1,fun k hk => ?_⟩
 obtain⟨b,o,hp,hc⟩:=h2 k hk
 exact⟨b,o,hp,(hb.cell (p:=⟨b,_,none⟩) (World.block_lt_of_cell? w _ hc)).trans hc⟩
def VF (g:Int->Option Value):Nat->Nat
 | 0=>0
 | n+1=>VF g n+if (g (n:Int)).isSome then 1 else 0
def Pd (w:World) (H N:Nat) (vl:Nat->Int):Prop:=∃ g n,Mp w (H+3) n g/\n<=VF g N/\∀ i x,g i=some x->∃ j:Nat,i=j/\j<N/\x=.int .i64 (vl j)
theorem Pd.later {w w':World} {H N:Nat} {vl:Nat->Int} (h:Pd w H N vl) (hb:Below w.heap.size w w'):Pd w' H N vl:=by
 obtain⟨g,n,hM,r⟩:=h
 exact⟨g,n,hM.later hb,r⟩
section
variable {b m:Nat} {v:Value} {t:List Nd} {H:Nat} {z:Int} {f:Int->Int->Int->Int} {gj:Nat} {vl:Nat->Int}
end
section
variable {b m:Nat} {v:Value} {t:List Nd}
variable {H:Nat} {z:Int} {f:Int->Int->Int->Int} {gj:Nat} {vl:Nat->Int}
theorem Mp.alloc {w:World} {m n:Nat} {g:Int->Option Value} (h:Mp w m n g) (o:Obj):Mp (w.alloc o) m n g:=h.later (ak w o)
end
end Go.Proofs.YtkpbpecikibohaaGreatDoor
namespace Go.Proofs.YtkpbpecikibohaaGreatDoor
open Go.RowKit Go.Shelf Go.Maps
open Fm (Nd)
attribute [local go_sem] Oper.semAt_some
section
variable {P:Program} {ops:Array Oper} {Q:Exit->Act->World->Prop} {l n:Nat}
theorem Pe {o:Oper} (hnd:∀ c,o.op≠.defer c) {a:Act} {w:World} {K K':Act->World->Prop} (hK:∀ a w,K a w->K' a w) (h:o.wp P a w K Q):o.wpIn (Fence.wide.inRound l) n P a w K' Q:=by
 refine⟨fun _ _=>trivial,?_⟩
 rw[Oper.semAt_eq _ _ _ hnd]
 unfold Oper.wp at h
 generalize (execOp a.eval o).run P w=r at *
 have hd:(Fence.wide.inRound l).depth.isSome=true->1<=n:=fun h=>by simp[Fence.wide] at h
 cases r with
 | ok x w'=>
  cases x <;> simp only[Oper.upon,Oper.uponIn] at h |-
  case value v=>exact hK _ _ h
  case skip=>exact hK _ _ h
  case defer d=>exact hK _ _ h
  case enter f args=>
   refine⟨hd,CallsIn.inRound l (callsIn_wide.2 (Calls.mono h fun e w'' he => ?_))⟩
   cases e with
   | returned v=>exact hK _ _ he
   | panicked c=>exact he
   | outgrown=>exact he
  case row row args=>exact⟨hd,fun c cs _=>let ⟨v,w',r,s⟩:=h c cs;⟨v,w',hK _ _ r,stepsIn_wide.2 s⟩⟩
 | halt x w'=>
  cases x <;> simp only[Oper.upon,Oper.uponIn] at h |-
  case panic u=>exact h
theorem sM (hnd:∀ (i:Nat) (o:Oper),ops[i]?=some o->∀ c,o.op≠.defer c) (hQ:¬ LetsOut Q) {md:Region.Mode}:∀ (fuel:Nat) (listed:Array Bool) (a:Act) (w:World),wpAny P md ops Q fuel listed a w->wpAnyIn (Fence.wide.inRound l) n P md ops Q fuel listed a w
 | 0,_,_,_,h=>h
 | fuel+1,listed,a,w,h=>by
  refine⟨h.1,fun i hi => ?_⟩
  have h2:=h.2 i hi
  unfold wpOp at h2
  unfold wpOpIn
  cases ho:ops[i]? with
  | none=>rw[ho] at h2;exact sM hnd hQ fuel _ a w h2
  | some o=>
   rw[ho] at h2
   simp only at h2 |-
   split <;> rename_i hw
   ·rw[if_pos hw] at h2
    rcases h2 with h2 | h2
    ·exact Pe (hnd i o ho) (fun a w h=>sM hnd hQ fuel _ a w h) h2
    ·exact absurd h2.2 hQ
   ·rw[if_neg hw] at h2
    exact⟨fun _ _=>trivial,sM hnd hQ fuel _ _ w h2⟩
end
abbrev KB (n m:Nat):World->World->Prop:=Kp (fun k=>k=m\/n<=k)
abbrev It (N:Nat):=Int × Fin N
structure Bk {N:Nat} (W:World) (g n₁ m:Nat) (L:List (It N)):Prop where
 box:∃ p c,W.cell? ⟨g,0,none⟩=some (.slice p L.length c)/\∀ k (hk:k<L.length),∃ b o,p=some ⟨b,o,none⟩/\W.cell? ⟨b,o+k,none⟩=some (.int .i64 ((L[k].2.val:Nat):Int))/\b<n₁/\b≠m
 lt:g<n₁/\g≠m
 idx:∀ k (hk:k<L.length),L[k].1=(k:Int)
 len:L.length<=1024
theorem Bk.kb {N:Nat} {W W':World} {g n₁ m:Nat} {L:List (It N)} (h:Bk W g n₁ m L) (k:KB n₁ m W W'):Bk W' g n₁ m L:=by
 obtain⟨⟨p,c,h1,h2⟩,hl,h3,h4⟩:=h
 refine⟨⟨p,c,k.cell h1 (by omega),fun j hj => ?_⟩,hl,h3,h4⟩
 obtain⟨b,o,hp,hc,hb⟩:=h2 j hj
 exact⟨b,o,hp,k.cell hc (by omega),hb⟩
end Go.Proofs.YtkpbpecikibohaaGreatDoor

/-
  Plain mathematics of writing formulas; and the calls isFalse, isNot, isTrue, level, sign. For every table and number. No other condition.
-/
import Derived.Test.YtkmmlimekachbaaGreatDoorSG1
import Derived.Test.YtkmmlimekachbaaGreatDoorPG
import Derived.Deep.RegionHeld3
namespace Go.Proofs.YtkmmlimekachbaaGreatDoor
open Go.RowKit Go.Maps
open Fm (Nd)
namespace Pr
def isFalse (t:List Nd) (i:Int):Bool:=(nodeOf t i).k == 2
def isNot (t:List Nd) (n:Nd):Bool:=n.k == 5 && isFalse t n.r
def isTrue (t:List Nd) (n:Nd):Bool:=isNot t n && n.l == n.r
def lvl (t:List Nd) (i:Int):Int :=
 if (nodeOf t i).k=3 then 3 else if (nodeOf t i).k=4 then 2 else if (nodeOf t i).k=5∧isNot t (nodeOf t i)=false then 1 else 4
def sign (k:Int):ByteArray:=if k=3 then ⟨#[32,38,32]⟩ else if k=4 then ⟨#[32,124,32]⟩ else ⟨#[32,45,62,32]⟩
inductive Pc where
 | tx (s:ByteArray)
 | pt (j:Int)
def enc (t:List Nd) (i least:Int):List Pc:=if least≤lvl t i then [.pt i] else [.tx ⟨#[40]⟩,.pt i,.tx ⟨#[41]⟩]
def pcs (t:List Nd) (i:Int):List Pc :=
 if (nodeOf t i).k=1 then [.tx (nodeOf t i).s]
 else if (nodeOf t i).k=2 then [.tx ⟨#[102,97,108,115,101]⟩]
 else if isTrue t (nodeOf t i) then [.tx ⟨#[116,114,117,101]⟩]
 else if isNot t (nodeOf t i) then .tx ⟨#[126]⟩ :: enc t (nodeOf t i).l 4
 else if (nodeOf t i).k=5 then enc t (nodeOf t i).l (lvl t i+1) ++ (.tx (sign (nodeOf t i).k) :: enc t (nodeOf t i).r (lvl t i))
 else enc t (nodeOf t i).l (lvl t i) ++ (.tx (sign (nodeOf t i).k) :: enc t (nodeOf t i).r (lvl t i+1))
end Pr
section
variable (w:World) {b m:Nat} {v:Value} {t:List Nd}
set_option maxHeartbeats 1000000 in
theorem isFalse_any (h:Tb w b m v t) (i:Int):Calls Tryz.prog 223 #[.agg #[.pointer (some ⟨b,0,none⟩)],.int .i64 i] w fun e w'=>e=.returned (.bool (Pr.isFalse t i))∧Below w.heap.size w w':=by
 have K:=show Hid (∀ w1,Below w.heap.size w w1→Calls Tryz.prog 81 #[.pointer (some ⟨b,0,none⟩),.int .i64 i] w1 fun e w'=>e=.returned (.tuple #[ndV (nodeOf t i),.bool (Fm.has t i)])∧Below w1.heap.size w1 w') from fun w1 hb=>node_any w1 (h.later hb) i
 have HE:=show Hid (Pr.isFalse t i=((nodeOf t i).k == 2)) from rfl
 generalize Pr.isFalse t i=q at *
 generalize nodeOf t i=n at *
 generalize Fm.has t i=hh at *
 obtain ⟨nk,ns,nl,nr⟩:=n
 unfold ndV at *
 simp only at *
 clear h
 go_enter Tryz.func223,Tryz.ntmps223
 go_wp2_with fail
 refine (K.out _ (below_alloc _ _)).mono ?_
 rintro e w1 ⟨rfl,hb⟩
 have HB:=show Hid (Below w.heap.size w w1) from (below_alloc _ _).trans (hb.mono (by simp))
 clear hb K
 go_wp2_with fail
 go_ret
 exact ⟨ret_bool (by rw [HE.out]),HB.out.alloc HB.out.size _⟩
set_option maxHeartbeats 1000000 in
theorem isNot_any (h:Tb w b m v t) (n:Nd):Calls Tryz.prog 199 #[.agg #[.pointer (some ⟨b,0,none⟩)],ndV n] w fun e w'=>e=.returned (.bool (Pr.isNot t n))∧Below w.heap.size w w':=by
 obtain ⟨nk,ns,nl,nr⟩:=n
 have K:=show Hid (∀ w1,Below w.heap.size w w1→Calls Tryz.prog 223 #[.agg #[.pointer (some ⟨b,0,none⟩)],.int .i64 nr] w1 fun e w'=>e=.returned (.bool (Pr.isFalse t nr))∧Below w1.heap.size w1 w') from fun w1 hb=>isFalse_any w1 (h.later hb) nr
 have HE:=show Hid (Pr.isNot t ⟨nk,ns,nl,nr⟩=(nk == 5 && Pr.isFalse t nr)) from rfl
 generalize Pr.isNot t ⟨nk,ns,nl,nr⟩=q at *
 generalize Pr.isFalse t nr=q2 at *
 unfold ndV at *
 have B0:=show Hid (Below w.heap.size w ((w.alloc (Obj.cells #[.pointer (some ⟨b,0,none⟩)] 222)).alloc (Obj.cells #[.int .i64 nk,.string ns,.int .i64 nl,.int .i64 nr] 140))) from ((Below.refl _ _).alloc (Nat.le_refl _) _).alloc (by simp) _
 simp only at *
 clear h
 by_cases hk:nk=5
 ·subst hk
  go_enter Tryz.func199,Tryz.ntmps199
  go_wp2_with fail
  refine (K.out _ B0.out).mono ?_
  rintro e w1 ⟨rfl,hb⟩
  have HB:=show Hid (Below w.heap.size w w1) from B0.out.trans (hb.mono B0.out.size)
  clear hb K
  go_wp2_with fail
  go_ret
  exact ⟨ret_bool (by rw [HE.out];simp),HB.out⟩
 ·have hk2:(nk == 5)=false:=by simp [hk]
  clear hk
  go_enter Tryz.func199,Tryz.ntmps199
  go_wp2_with fail
  go_ret
  exact ⟨ret_bool (by rw [HE.out,hk2];rfl),B0.out⟩
set_option maxHeartbeats 1000000 in
theorem isTrue_any (h:Tb w b m v t) (n:Nd):Calls Tryz.prog 198 #[.agg #[.pointer (some ⟨b,0,none⟩)],ndV n] w fun e w'=>e=.returned (.bool (Pr.isTrue t n))∧Below w.heap.size w w':=by
 have K:=show Hid (∀ w1,Below w.heap.size w w1→Calls Tryz.prog 199 #[.agg #[.pointer (some ⟨b,0,none⟩)],ndV n] w1 fun e w'=>e=.returned (.bool (Pr.isNot t n))∧Below w1.heap.size w1 w') from fun w1 hb=>isNot_any w1 (h.later hb) n
 have HE:=show Hid (Pr.isTrue t n=(Pr.isNot t n && n.l == n.r)) from rfl
 generalize Pr.isTrue t n=q at *
 generalize Pr.isNot t n=q2 at *
 obtain ⟨nk,ns,nl,nr⟩:=n
 unfold ndV at *
 simp only at *
 clear h
 have b0:Below w.heap.size w ((w.alloc (Obj.cells #[.pointer (some ⟨b,0,none⟩)] 222)).alloc (Obj.cells #[.int .i64 nk,.string ns,.int .i64 nl,.int .i64 nr] 140)):=((Below.refl _ _).alloc (Nat.le_refl _) _).alloc (by simp) _
 have B0:=show Hid _ from b0
 clear b0
 go_enter Tryz.func198,Tryz.ntmps198
 go_wp2_with fail
 refine (K.out _ B0.out).mono ?_
 rintro e w1 ⟨rfl,hb⟩
 have HB:=show Hid (Below w.heap.size w w1) from B0.out.trans (hb.mono B0.out.size)
 have hn:N4 w1 (w.heap.size+1) ⟨nk,ns,nl,nr⟩:=(hb.block _ (by simp)).trans (heap_alloc2_new _ _ _)
 have c2:=hn.c2
 have c3:=hn.c3
 simp only at c2 c3
 clear hb K hn
 cases q2
 ·go_wp2_with fail
  go_ret
  exact ⟨ret_bool (by rw [HE.out];rfl),HB.out⟩
 ·go_wp2_with fail
  go_ret
  exact ⟨ret_bool (by rw [HE.out];simp),HB.out⟩
set_option maxHeartbeats 1000000 in
theorem level_any (h:Tb w b m v t) (i:Int):Calls Tryz.prog 197 #[.agg #[.pointer (some ⟨b,0,none⟩)],.int .i64 i] w fun e w'=>e=.returned (.int .i64 (Pr.lvl t i))∧Below w.heap.size w w':=by
 have K:=show Hid (∀ w1,Below w.heap.size w w1→Calls Tryz.prog 81 #[.pointer (some ⟨b,0,none⟩),.int .i64 i] w1 fun e w'=>e=.returned (.tuple #[ndV (nodeOf t i),.bool (Fm.has t i)])∧Below w1.heap.size w1 w') from fun w1 hb=>node_any w1 (h.later hb) i
 have KN:=show Hid (∀ w1,Below w.heap.size w w1→Calls Tryz.prog 199 #[.agg #[.pointer (some ⟨b,0,none⟩)],ndV (nodeOf t i)] w1 fun e w'=>e=.returned (.bool (Pr.isNot t (nodeOf t i)))∧Below w1.heap.size w1 w') from fun w1 hb=>isNot_any w1 (h.later hb) _
 have HE:=show Hid (Pr.lvl t i=if (nodeOf t i).k=3 then 3 else if (nodeOf t i).k=4 then 2 else if (nodeOf t i).k=5∧Pr.isNot t (nodeOf t i)=false then 1 else 4) from rfl
 generalize Pr.lvl t i=q at *
 generalize Pr.isNot t (nodeOf t i)=q2 at *
 generalize nodeOf t i=n at *
 generalize Fm.has t i=hh at *
 obtain ⟨nk,ns,nl,nr⟩:=n
 unfold ndV at *
 simp only at *
 clear h
 go_enter Tryz.func197,Tryz.ntmps197
 go_wp2_with fail
 refine (K.out _ (below_alloc _ _)).mono ?_
 rintro e w1 ⟨rfl,hb⟩
 have HB:=show Hid (Below w.heap.size w w1∧Box w1 w.heap.size (.pointer (some ⟨b,0,none⟩)) 222) from ⟨(below_alloc _ _).trans (hb.mono (by simp)),(hb.block _ (by simp)).trans (heap_alloc_new _ _)⟩
 have z0:=HB.out.2.c0
 have zlt:=HB.out.2.lt
 clear hb K
 by_cases h3:nk=3
 ·subst h3
  have hq:=HE.out
  simp only [if_true] at hq
  subst hq
  go_wp2_with fail
  go_ret
  exact ⟨rfl,HB.out.1.alloc HB.out.1.size _⟩
 have e3:(nk == 3)=false:=by simp [h3]
 by_cases h4:nk=4
 ·subst h4
  have hq:=HE.out
  simp at hq
  subst hq
  go_wp2_with fail
  go_ret
  exact ⟨rfl,HB.out.1.alloc HB.out.1.size _⟩
 have e4:(nk == 4)=false:=by simp [h4]
 by_cases h5:nk=5
 ·subst h5
  clear h3 h4
  go_wp2_with fail
  refine (KN.out _ (HB.out.1.alloc HB.out.1.size _)).mono ?_
  rintro e w2 ⟨rfl,hb2⟩
  have HB2:=show Hid (Below w.heap.size w w2) from (HB.out.1.alloc HB.out.1.size _).trans (hb2.mono (by have:=HB.out.1.size;simp;omega))
  clear hb2 KN
  cases q2
  ·have hq:=HE.out
   simp at hq
   subst hq
   go_wp2_with fail
   go_ret
   exact ⟨rfl,HB2.out⟩
  ·have hq:=HE.out
   simp at hq
   subst hq
   go_wp2_with fail
   go_ret
   exact ⟨rfl,HB2.out⟩
 ·have e5:(nk == 5)=false:=by simp [h5]
  have hq:=HE.out
  rw [if_neg h3,if_neg h4,if_neg (fun h=>h5 h.1)] at hq
  subst hq
  clear h3 h4 h5
  go_wp2_with fail
  go_ret
  exact ⟨rfl,HB.out.1.alloc HB.out.1.size _⟩
set_option maxHeartbeats 1000000 in
theorem signP_any (k:Int):Calls Tryz.prog 200 #[.int .i64 k] w fun e w'=>e=.returned (.string (Pr.sign k))∧w'=w:=by
 unfold Pr.sign
 by_cases h3:k=3
 ·subst h3
  go_enter Tryz.func200,Tryz.ntmps200
  go_wp2_with fail
  go_ret
  exact ⟨rfl,rfl⟩
 ·have e3:(k == 3)=false:=by simp [h3]
  rw [if_neg h3]
  by_cases h4:k=4
  ·subst h4
   go_enter Tryz.func200,Tryz.ntmps200
   go_wp2_with fail
   go_ret
   exact ⟨rfl,rfl⟩
  ·have e4:(k == 4)=false:=by simp [h4]
   rw [if_neg h4]
   clear h3 h4
   go_enter Tryz.func200,Tryz.ntmps200
   go_wp2_with fail
   go_ret
   exact ⟨rfl,rfl⟩
end
end Go.Proofs.YtkmmlimekachbaaGreatDoor
/-
  Plain mathematics of a formula's text and its width. No condition.
-/
namespace Go.Proofs.YtkmmlimekachbaaGreatDoor.Pr
open Go.RowKit
open Fm (Nd)
def txt (t:List Nd):Nat→Int→List UInt8
 | 0,_=>[]
 | f+1,i=>(pcs t i).flatMap fun | .tx s=>s.data.toList | .pt j=>txt t f j
def text (t:List Nd) (i:Int):List UInt8:=txt t (i.toNat+1) i
def pc (t:List Nd):Pc→List UInt8
 | .tx s=>s.data.toList
 | .pt j=>text t j
def textOf (t:List Nd) (l:List Pc):List UInt8:=l.flatMap (pc t)
theorem textOf_app (t:List Nd) (a b:List Pc):textOf t (a ++ b)=textOf t a ++ textOf t b:=by simp [textOf]
theorem textOf_one (t:List Nd) (x:Pc):textOf t [x]=pc t x:=by simp [textOf]
theorem flatMap_same {f g:Pc→List UInt8}:∀ {l:List Pc},(∀ x ∈ l,f x=g x)→l.flatMap f=l.flatMap g
 | [],_=>rfl
 | x :: l,h=>by rw [List.flatMap_cons,List.flatMap_cons,h x (by simp),flatMap_same fun y hy=>h y (by simp [hy])]
section
variable {t:List Nd}
theorem node_at {i:Int} (hi:Fm.has t i=true):∃ k:Nat,i=k∧∃ h:k<t.length,nodeOf t i=t[k]:=by
 have h:=Fm.has_iff.1 hi
 refine ⟨i.toNat,by omega,by omega,?_⟩
 unfold nodeOf
 rw [if_pos hi,List.getD_eq_getElem?_getD,List.getElem?_eq_getElem (by omega)]
 rfl
theorem enc_mem {i least:Int} {x:Pc} (h:x ∈ enc t i least):x=.pt i∨x=.tx ⟨#[40]⟩∨x=.tx ⟨#[41]⟩:=by
 unfold enc at h
 split at h
 ·simp at h;exact Or.inl h
 ·simp at h
  rcases h with h | h | h
  ·exact Or.inr (Or.inl h)
  ·exact Or.inl h
  ·exact Or.inr (Or.inr h)
theorem sign_size (k:Int):(sign k).size≤31:=by
 unfold sign
 repeat' split
 all_goals decide
theorem pcs_mem (hT:Fm.Ok t) {i:Int} (hi:Fm.has t i=true) {x:Pc} (h:x ∈ pcs t i):(∃ s,x=.tx s∧s.size≤31)∨∃ j,x=.pt j∧Fm.has t j=true∧j<i∧Fm.jn (nodeOf t i).k=true∧(j=(nodeOf t i).l∨j=(nodeOf t i).r):=by
 obtain ⟨k,rfl,hk,hn⟩:=node_at hi
 have hkind:=Fm.ok_kind hT hk
 rw [← hn] at hkind
 have hparts:Fm.jn (nodeOf t (k:Int)).k=true→((Fm.has t (nodeOf t (k:Int)).l=true∧(nodeOf t (k:Int)).l<k)∧(Fm.has t (nodeOf t (k:Int)).r=true∧(nodeOf t (k:Int)).r<k)):=fun hj=>by
  rw [hn] at hj ⊢
  have hp:=Fm.ok_parts hT hk hj
  exact ⟨⟨Fm.has_iff.2 ⟨hp.1.1,by omega⟩,hp.1.2⟩,Fm.has_iff.2 ⟨hp.2.1,by omega⟩,hp.2.2⟩
 have hl:∀ least,x ∈ enc t (nodeOf t (k:Int)).l least→Fm.jn (nodeOf t (k:Int)).k=true→(∃ s,x=.tx s∧s.size≤31)∨∃ j,x=.pt j∧Fm.has t j=true∧j<(k:Int)∧Fm.jn (nodeOf t (k:Int)).k=true∧(j=(nodeOf t (k:Int)).l∨j=(nodeOf t (k:Int)).r):=fun least hx hj=>by
  rcases enc_mem hx with rfl | rfl | rfl
  ·exact Or.inr ⟨_,rfl,(hparts hj).1.1,(hparts hj).1.2,hj,Or.inl rfl⟩
  ·exact Or.inl ⟨_,rfl,by decide⟩
  ·exact Or.inl ⟨_,rfl,by decide⟩
 have hr:∀ least,x ∈ enc t (nodeOf t (k:Int)).r least→Fm.jn (nodeOf t (k:Int)).k=true→(∃ s,x=.tx s∧s.size≤31)∨∃ j,x=.pt j∧Fm.has t j=true∧j<(k:Int)∧Fm.jn (nodeOf t (k:Int)).k=true∧(j=(nodeOf t (k:Int)).l∨j=(nodeOf t (k:Int)).r):=fun least hx hj=>by
  rcases enc_mem hx with rfl | rfl | rfl
  ·exact Or.inr ⟨_,rfl,(hparts hj).2.1,(hparts hj).2.2,hj,Or.inr rfl⟩
  ·exact Or.inl ⟨_,rfl,by decide⟩
  ·exact Or.inl ⟨_,rfl,by decide⟩
 unfold pcs at h
 split at h
 ·rename_i h1
  simp at h
  subst h
  refine Or.inl ⟨_,rfl,?_⟩
  have hc:=hT.chk k hk
  rw [hn] at h1 ⊢
  by_cases hw:Fm.word t[k].s.data.toList=true
  ·exact Sx.word_len hw
  ·exfalso
   unfold Fm.check at hc
   rw [if_pos h1,if_neg hw] at hc
   split at hc <;> omega
 ·rename_i h1
  split at h
  ·simp at h;subst h;exact Or.inl ⟨_,rfl,by decide⟩
  ·rename_i h2
   have hj:Fm.jn (nodeOf t (k:Int)).k=true:=by rcases hkind with h | h | h;exact absurd h h1;exact absurd h h2;exact h
   split at h
   ·simp at h;subst h;exact Or.inl ⟨_,rfl,by decide⟩
   ·split at h
    ·rcases List.mem_cons.1 h with rfl | h
     ·exact Or.inl ⟨_,rfl,by decide⟩
     ·exact hl _ h hj
    ·split at h
     ·rcases List.mem_append.1 h with h | h
      ·exact hl _ h hj
      ·rcases List.mem_cons.1 h with rfl | h
       ·exact Or.inl ⟨_,rfl,sign_size _⟩
       ·exact hr _ h hj
     ·rcases List.mem_append.1 h with h | h
      ·exact hl _ h hj
      ·rcases List.mem_cons.1 h with rfl | h
       ·exact Or.inl ⟨_,rfl,sign_size _⟩
       ·exact hr _ h hj
theorem enc_len (t:List Nd) (i least:Int):(enc t i least).length≤3:=by
 unfold enc
 split <;> simp
theorem pcs_len (t:List Nd) (i:Int):(pcs t i).length≤7:=by
 have h1:=enc_len t (nodeOf t i).l
 have h2:=enc_len t (nodeOf t i).r
 unfold pcs
 repeat' split
 all_goals simp
 ·have:=h1 4;omega
 ·have:=h1 (lvl t i+1);have:=h2 (lvl t i);omega
 ·have:=h1 (lvl t i);have:=h2 (lvl t i+1);omega
theorem txt_fuel (hT:Fm.Ok t):∀ (f g:Nat) (i:Int),Fm.has t i=true→i.toNat<f→i.toNat<g→txt t f i=txt t g i
 | 0,_,i,_,h,_=>absurd h (by omega)
 | _+1,0,i,_,_,h=>absurd h (by omega)
 | f+1,g+1,i,hi,hf,hg=>by
  unfold txt
  have hlt:=Fm.has_iff.1 hi
  have:∀ x ∈ pcs t i,(match x with | .tx s=>s.data.toList | .pt j=>txt t f j)=(match x with | .tx s=>s.data.toList | .pt j=>txt t g j):=fun x hx=>by
   rcases pcs_mem hT hi hx with ⟨s,rfl,_⟩ | ⟨j,rfl,hj,hji,_⟩
   ·rfl
   ·have h0:=Fm.has_iff.1 hj
    exact txt_fuel hT f g j hj (by omega) (by omega)
  exact flatMap_same this
theorem text_eq (hT:Fm.Ok t) {i:Int} (hi:Fm.has t i=true):text t i=textOf t (pcs t i):=by
 unfold text textOf
 show (pcs t i).flatMap _=_
 refine flatMap_same fun x hx => ?_
 rcases pcs_mem hT hi hx with ⟨s,rfl,_⟩ | ⟨j,rfl,hj,hji,_⟩
 ·rfl
 ·have h0:=Fm.has_iff.1 hj
  exact txt_fuel hT _ _ j hj (by omega) (by omega)
end
def wd (t:List Nd) (i:Int):Nat:=min (text t i).length 65537
def pw (t:List Nd):Pc→Nat
 | .tx s=>s.size
 | .pt j=>wd t j
def sumW (t:List Nd) (l:List Pc):Nat:=(l.map (pw t)).sum
theorem sumW_app (t:List Nd) (a b:List Pc):sumW t (a ++ b)=sumW t a+sumW t b:=by simp [sumW]
theorem min_sum (t:List Nd):∀ l:List Pc,min (sumW t l) 65537=min (textOf t l).length 65537
 | []=>rfl
 | x :: l=>by
  have ih:=min_sum t l
  have e1:sumW t (x :: l)=pw t x+sumW t l:=by simp [sumW]
  have e2:(textOf t (x :: l)).length=(pc t x).length+(textOf t l).length:=by simp [textOf]
  rw [e1,e2]
  cases x with
  | tx s =>
   have e3:(pc t (.tx s)).length=s.size:=rfl
   simp only [pw,e3]
   omega
  | pt j =>
   have e3:(pc t (.pt j)).length=(text t j).length:=rfl
   simp only [pw,wd,e3]
   omega
theorem wd_sum {t:List Nd} (hT:Fm.Ok t) {i:Int} (hi:Fm.has t i=true):wd t i=min (sumW t (pcs t i)) 65537:=by
 rw [min_sum,wd,text_eq hT hi]
end Go.Proofs.YtkmmlimekachbaaGreatDoor.Pr
/-
  The calls enclose and walk of a printer, whatever is done with the pieces. For every table and number. No other condition.
-/
namespace Go.Proofs.YtkmmlimekachbaaGreatDoor
open Go.RowKit Go.Maps
open Fm (Nd)
open Pr (Pc)
def KW (w w':World):Prop:=w.heap.size≤w'.heap.size∧∀ (k:Nat) (cs:Array Value) (ty:TypeId) (fr:Nat × Nat),w.heap[k]?=some (.cells cs ty fr)→(ty=222∨ty=225∨ty=180∨ty=140)→w'.heap[k]?=w.heap[k]?
theorem KW.of_below {w w':World} (h:Below w.heap.size w w'):KW w w':=⟨h.size,fun k _ _ _ hk _=>h.block k (lt_of_block hk)⟩
theorem KW.trans {a b c:World} (h:KW a b) (k:KW b c):KW a c:=⟨Nat.le_trans h.1 k.1,fun i cs ty fr hi ht=>(k.2 i cs ty fr ((h.2 i cs ty fr hi ht).trans hi) ht).trans (h.2 i cs ty fr hi ht)⟩
theorem KW.box {w w':World} (h:KW w w') {g:Nat} {x:Value} {ty:TypeId} (hb:Box w g x ty) (ht:ty=222∨ty=225∨ty=180∨ty=140):Box w' g x ty:=(h.2 _ _ _ _ hb ht).trans hb
theorem KW.n4 {w w':World} (h:KW w w') {g:Nat} {n:Nd} (hb:N4 w g n):N4 w' g n:=(h.2 _ _ _ _ hb (Or.inr (Or.inr (Or.inr rfl)))).trans hb
structure Wk (t:List Nd) (b m:Nat) (v:Value) (I:List Pc→World→Prop) (F1 F2:Nat) (c1 c2:Array Value) (ok:List Pc→Pc→Prop):Prop where
 tb:∀ dn w,I dn w→Tb w b m v t
 st:∀ dn w w',I dn w→Below w.heap.size w w'→I dn w'
 tx:∀ dn w s,I dn w→ok dn (.tx s)→Calls Tryz.prog F1 (#[.string s] ++ c1) w fun e w'=>e=.returned (.tuple #[])∧I (dn ++ [.tx s]) w'∧KW w w'
 pt:∀ dn w j,I dn w→ok dn (.pt j)→Calls Tryz.prog F2 (#[.int .i64 j] ++ c2) w fun e w'=>e=.returned (.tuple #[])∧I (dn ++ [.pt j]) w'∧KW w w'
 e1:∀ (args:Array Value) (w:World),(callFunc F1 args).run Tryz.prog w=.ok (.enter F1 args) w
 e2:∀ (args:Array Value) (w:World),(callFunc F2 args).run Tryz.prog w=.ok (.enter F2 args) w
section
variable (w:World) {b m g0 g1 g2:Nat} {v:Value} {t:List Nd} {I:List Pc→World→Prop} {F1 F2:Nat} {c1 c2:Array Value} {ok:List Pc→Pc→Prop}
set_option maxRecDepth 100000 in
set_option maxHeartbeats 2000000 in
theorem enclose_any (hW:Wk t b m v I F1 F2 c1 c2 ok) (dn:List Pc) (hI:I dn w) (i least:Int) (h0:Box w g0 (.pointer (some ⟨b,0,none⟩)) 222) (h1:Box w g1 (.func (.func F1) #[] c1) 225) (h2:Box w g2 (.func (.func F2) #[] c2) 180) (hok:∀ pre x post,Pr.enc t i least=pre ++ x :: post→ok (dn ++ pre) x) :
 Calls Tryz.prog 196 #[.int .i64 i,.int .i64 least,.pointer (some ⟨g0,0,none⟩),.pointer (some ⟨g2,0,none⟩),.pointer (some ⟨g1,0,none⟩)] w fun e w'=>e=.returned (.tuple #[])∧I (dn ++ Pr.enc t i least) w'∧KW w w':=by
 have KL:=show Hid (Calls Tryz.prog 197 #[.agg #[.pointer (some ⟨b,0,none⟩)],.int .i64 i] w fun e w'=>e=.returned (.int .i64 (Pr.lvl t i))∧Below w.heap.size w w') from level_any w (hW.tb dn w hI) i
 have HE:=show Hid (Pr.enc t i least=if least≤Pr.lvl t i then [.pt i] else [.tx ⟨#[40]⟩,.pt i,.tx ⟨#[41]⟩]) from rfl
 have z0:=h0.c0
 have e1:=hW.e1
 have e2:=hW.e2
 have HW:=show Hid (Wk t b m v I F1 F2 c1 c2 ok) from hW
 have X:=show Hid (I dn w∧Box w g1 (.func (.func F1) #[] c1) 225∧Box w g2 (.func (.func F2) #[] c2) 180 ) from ⟨hI,h1,h2⟩
 have HOK:=show Hid (∀ pre x post,Pr.enc t i least=pre ++ x :: post→ok (dn ++ pre) x) from hok
 generalize Pr.lvl t i=lv at *
 generalize Pr.enc t i least=en at *
 clear hW hI h0 h1 h2 hok
 go_enter Tryz.func196,Tryz.ntmps196
 go_wp2_with fail
 refine KL.out.mono ?_
 rintro e w1 ⟨rfl,hb⟩
 have X1:=show Hid (I dn w1∧Box w1 g1 (.func (.func F1) #[] c1) 225∧Box w1 g2 (.func (.func F2) #[] c2) 180∧KW w w1) from ⟨HW.out.st dn w w1 X.out.1 hb,(hb.block _ X.out.2.1.lt).trans X.out.2.1,(hb.block _ X.out.2.2.lt).trans X.out.2.2,KW.of_below hb⟩
 have y1:=X1.out.2.1.c0
 have y2:=X1.out.2.2.1.c0
 clear hb KL
 by_cases hl:least≤lv
 ·have hen:=HE.out
  rw [if_pos hl] at hen
  subst hen
  have hge:lv ≥ least:=hl
  clear HE
  go_wp2_with fail
  refine (HW.out.pt dn w1 i X1.out.1 (by have:=HOK.out [] (.pt i) [] rfl;simpa using this)).mono ?_
  rintro e w2 ⟨rfl,hI2,hk2⟩
  have X2:=show Hid (I (dn ++ [.pt i]) w2∧KW w w2) from ⟨hI2,X1.out.2.2.2.trans hk2⟩
  clear hI2 hk2
  go_wp2_with fail
  first | go_end0 | refine bodyPost_ret (results_none rfl _ _ _) rfl ?_
  exact ⟨rfl,X2.out.1,X2.out.2⟩
 ·have hen:=HE.out
  rw [if_neg hl] at hen
  subst hen
  have hge:¬ lv ≥ least:=hl
  clear HE
  go_wp2_with fail
  refine (HW.out.tx dn w1 ⟨#[40]⟩ X1.out.1 (by have:=HOK.out [] (.tx ⟨#[40]⟩) [.pt i,.tx ⟨#[41]⟩] rfl;simpa using this)).mono ?_
  rintro e w2 ⟨rfl,hI2,hk2⟩
  have X2:=show Hid (I (dn ++ [.tx ⟨#[40]⟩]) w2∧KW w w2∧Box w2 g1 (.func (.func F1) #[] c1) 225∧Box w2 g2 (.func (.func F2) #[] c2) 180) from ⟨hI2,X1.out.2.2.2.trans hk2,hk2.box X1.out.2.1 (Or.inr (Or.inl rfl)),hk2.box X1.out.2.2.1 (Or.inr (Or.inr (Or.inl rfl)))⟩
  have x1:=X2.out.2.2.1.c0
  have x2:=X2.out.2.2.2.c0
  clear hI2 hk2 y1 y2
  go_wp2_with fail
  refine (HW.out.pt _ w2 i X2.out.1 (HOK.out [.tx ⟨#[40]⟩] (.pt i) [.tx ⟨#[41]⟩] rfl)).mono ?_
  rintro e w3 ⟨rfl,hI3,hk3⟩
  have X3:=show Hid (I (dn ++ [.tx ⟨#[40]⟩] ++ [.pt i]) w3∧KW w w3∧Box w3 g1 (.func (.func F1) #[] c1) 225) from ⟨hI3,X2.out.2.1.trans hk3,hk3.box X2.out.2.2.1 (Or.inr (Or.inl rfl))⟩
  have u1:=X3.out.2.2.c0
  clear hI3 hk3 x1 x2
  go_wp2_with fail
  refine (HW.out.tx _ w3 ⟨#[41]⟩ X3.out.1 (by have:=HOK.out [.tx ⟨#[40]⟩,.pt i] (.tx ⟨#[41]⟩) [] rfl;simpa using this)).mono ?_
  rintro e w4 ⟨rfl,hI4,hk4⟩
  have X4:=show Hid (I (dn ++ [.tx ⟨#[40]⟩,.pt i,.tx ⟨#[41]⟩]) w4∧KW w w4) from ⟨by simpa using hI4,X3.out.2.1.trans hk4⟩
  clear hI4 hk4
  go_wp2_with fail
  go_end0
  exact ⟨rfl,X4.out.1,X4.out.2⟩
structure Ws (w w':World) (b hn:Nat) (n:Nd) (F1 F2:Nat) (c1 c2:Array Value):Prop where
 p0:Box w' w.heap.size (.pointer (some ⟨b,0,none⟩)) 222
 p1:Box w' (w.heap.size+1) (.func (.func F1) #[] c1) 225
 p2:Box w' (w.heap.size+1+1) (.func (.func F2) #[] c2) 180
 n4:N4 w' hn n
 kw:KW w w'
theorem Ws.next {w w1 w2:World} {b hn:Nat} {n:Nd} {F1 F2:Nat} {c1 c2:Array Value} (h:Ws w w1 b hn n F1 F2 c1 c2) (hk:KW w1 w2):Ws w w2 b hn n F1 F2 c1 c2 :=
 ⟨hk.box h.p0 (Or.inl rfl),hk.box h.p1 (Or.inr (Or.inl rfl)),hk.box h.p2 (Or.inr (Or.inr (Or.inl rfl))),hk.n4 h.n4,h.kw.trans hk⟩
set_option maxRecDepth 100000 in
set_option maxHeartbeats 4000000 in
theorem walk_any (hW:Wk t b m v I F1 F2 c1 c2 ok) (hI:I [] w) (i:Int) (hok:∀ pre x post,Pr.pcs t i=pre ++ x :: post→ok pre x) :
 Calls Tryz.prog 168 #[.agg #[.pointer (some ⟨b,0,none⟩)],.int .i64 i,.func (.func F1) #[] c1,.func (.func F2) #[] c2] w fun e w'=>e=.returned (.tuple #[])∧I (Pr.pcs t i) w'∧KW w w':=by
 have hmf:=mkFunc
 have KN:=show Hid (∀ w1,I [] w1→Calls Tryz.prog 81 #[.pointer (some ⟨b,0,none⟩),.int .i64 i] w1 fun e w'=>e=.returned (.tuple #[ndV (nodeOf t i),.bool (Fm.has t i)])∧Below w1.heap.size w1 w') from fun w1 h=>node_any w1 (hW.tb _ _ h) i
 have KT:=show Hid (∀ w1,I [] w1→Calls Tryz.prog 198 #[.agg #[.pointer (some ⟨b,0,none⟩)],ndV (nodeOf t i)] w1 fun e w'=>e=.returned (.bool (Pr.isTrue t (nodeOf t i)))∧Below w1.heap.size w1 w') from fun w1 h=>isTrue_any w1 (hW.tb _ _ h) _
 have KM:=show Hid (∀ w1,I [] w1→Calls Tryz.prog 199 #[.agg #[.pointer (some ⟨b,0,none⟩)],ndV (nodeOf t i)] w1 fun e w'=>e=.returned (.bool (Pr.isNot t (nodeOf t i)))∧Below w1.heap.size w1 w') from fun w1 h=>isNot_any w1 (hW.tb _ _ h) _
 have KL:=show Hid (∀ w1,I [] w1→Calls Tryz.prog 197 #[.agg #[.pointer (some ⟨b,0,none⟩)],.int .i64 i] w1 fun e w'=>e=.returned (.int .i64 (Pr.lvl t i))∧Below w1.heap.size w1 w') from fun w1 h=>level_any w1 (hW.tb _ _ h) i
 have hlv:1≤Pr.lvl t i∧Pr.lvl t i≤4:=by
  unfold Pr.lvl
  repeat' split
  all_goals simp
 have KE:=show Hid (∀ w1 dn j least,I dn w1→∀ hn n,Ws w w1 b hn n F1 F2 c1 c2→(∀ pre x post,Pr.enc t j least=pre ++ x :: post→ok (dn ++ pre) x)→Calls Tryz.prog 196 #[.int .i64 j,.int .i64 least,.pointer (some ⟨w.heap.size,0,none⟩),.pointer (some ⟨w.heap.size+1+1,0,none⟩),.pointer (some ⟨w.heap.size+1,0,none⟩)] w1 fun e w'=>e=.returned (.tuple #[])∧I (dn ++ Pr.enc t j least) w'∧KW w1 w') from fun w1 dn j least h hn n hs hk=>enclose_any w1 hW dn h j least hs.p0 hs.p1 hs.p2 hk
 have HE:=show Hid (Pr.pcs t i=if (nodeOf t i).k=1 then [.tx (nodeOf t i).s] else if (nodeOf t i).k=2 then [.tx ⟨#[102,97,108,115,101]⟩] else if Pr.isTrue t (nodeOf t i) then [.tx ⟨#[116,114,117,101]⟩] else if Pr.isNot t (nodeOf t i) then .tx ⟨#[126]⟩ :: Pr.enc t (nodeOf t i).l 4 else if (nodeOf t i).k=5 then Pr.enc t (nodeOf t i).l (Pr.lvl t i+1) ++ (.tx (Pr.sign (nodeOf t i).k) :: Pr.enc t (nodeOf t i).r (Pr.lvl t i)) else Pr.enc t (nodeOf t i).l (Pr.lvl t i) ++ (.tx (Pr.sign (nodeOf t i).k) :: Pr.enc t (nodeOf t i).r (Pr.lvl t i+1))) from rfl
 have HOK:=show Hid (∀ pre x post,Pr.pcs t i=pre ++ x :: post→ok pre x) from hok
 have HW:=show Hid (Wk t b m v I F1 F2 c1 c2 ok) from hW
 have e1:=hW.e1
 have e2:=hW.e2
 obtain ⟨w0,hw0⟩:∃ w0,w0=((w.alloc (Obj.cells #[.pointer (some ⟨b,0,none⟩)] 222)).alloc (Obj.cells #[.func (.func F1) #[] c1] 225)).alloc (Obj.cells #[.func (.func F2) #[] c2] 180):=⟨_,rfl⟩
 have hb0:Below w.heap.size w w0:=by rw [hw0];exact (((Below.refl _ _).alloc (Nat.le_refl _) _).alloc (by simp) _).alloc (by simp;omega) _
 have q0:Box w0 w.heap.size (.pointer (some ⟨b,0,none⟩)) 222:=by rw [hw0];exact (Below.heap_alloc _ _ _ (by simp;omega)).trans ((Below.heap_alloc _ _ _ (by simp)).trans (heap_new_at _ _ _ rfl))
 have q1:Box w0 (w.heap.size+1) (.func (.func F1) #[] c1) 225:=by rw [hw0];exact (Below.heap_alloc _ _ _ (by simp)).trans (heap_new_at _ _ _ (by simp))
 have q2:Box w0 (w.heap.size+1+1) (.func (.func F2) #[] c2) 180:=by rw [hw0];exact heap_new_at _ _ _ (by simp)
 have X0:=show Hid (I [] w0∧Below w.heap.size w w0∧Box w0 w.heap.size (.pointer (some ⟨b,0,none⟩)) 222∧Box w0 (w.heap.size+1) (.func (.func F1) #[] c1) 225∧Box w0 (w.heap.size+1+1) (.func (.func F2) #[] c2) 180) from ⟨hW.st _ _ _ hI hb0,hb0,q0,q1,q2⟩
 have z0:=q0.c0
 generalize Pr.pcs t i=ps at *
 generalize Pr.isTrue t (nodeOf t i)=bt at *
 generalize Pr.isNot t (nodeOf t i)=bn at *
 generalize Pr.lvl t i=lv at *
 generalize Fm.has t i=hh at *
 generalize nodeOf t i=n at *
 obtain ⟨nk,ns,nl,nr⟩:=n
 unfold ndV at *
 simp only at *
 clear hW hI hok hb0 q0 q1 q2
 go_enter Tryz.func168,Tryz.ntmps168
 go_wp2_with fail
 rw [← hw0]
 clear hw0
 go_wp2_with fail
 refine (KN.out w0 X0.out.1).mono ?_
 rintro e w1 ⟨rfl,hb1⟩
 have hb2:Below w1.heap.size w1 (w1.alloc (Obj.cells #[.int .i64 nk,.string ns,.int .i64 nl,.int .i64 nr] 140)):=below_alloc _ _
 have hb3:Below w0.heap.size w0 (w1.alloc (Obj.cells #[.int .i64 nk,.string ns,.int .i64 nl,.int .i64 nr] 140)):=hb1.trans (hb2.mono hb1.size)
 obtain ⟨w2,hw2⟩:∃ w2,w2=w1.alloc (Obj.cells #[.int .i64 nk,.string ns,.int .i64 nl,.int .i64 nr] 140):=⟨_,rfl⟩
 have hn2:N4 w2 w1.heap.size ⟨nk,ns,nl,nr⟩:=by rw [hw2];exact heap_alloc_new _ _
 rw [← hw2] at hb3
 have X2:=show Hid (I [] w2∧Ws w w2 b w1.heap.size ⟨nk,ns,nl,nr⟩ F1 F2 c1 c2) from ⟨HW.out.st _ _ _ X0.out.1 hb3,(hb3.block _ X0.out.2.2.1.lt).trans X0.out.2.2.1,(hb3.block _ X0.out.2.2.2.1.lt).trans X0.out.2.2.2.1,(hb3.block _ X0.out.2.2.2.2.lt).trans X0.out.2.2.2.2,hn2,(KW.of_below X0.out.2.1).trans (KW.of_below hb3)⟩
 have n0:=hn2.c0;have n1:=hn2.c1;have n2:=hn2.c2;have n3:=hn2.c3
 have s0:=X2.out.2.p0.c0;have s1:=X2.out.2.p1.c0
 simp only at n0 n1 n2 n3
 clear hb1 hb2 hb3 hn2 KN X0 z0
 subst hw2
 by_cases h1:nk=1
 ·subst h1
  have hps:=HE.out
  simp only [if_true] at hps
  subst hps
  go_wp2_with fail
  refine (HW.out.tx [] _ ns X2.out.1 (HOK.out [] _ [] rfl)).mono ?_
  rintro e w3 ⟨rfl,hI3,hk3⟩
  have X3:=show Hid (I [.tx ns] w3∧KW w w3) from ⟨hI3,X2.out.2.kw.trans hk3⟩
  clear hI3 hk3
  go_wp2_with fail
  first | go_end0 | refine bodyPost_ret (results_none rfl _ _ _) rfl ?_
  exact ⟨rfl,X3.out.1,X3.out.2⟩
 have e1':(nk == 1)=false:=by simp [h1]
 by_cases h2:nk=2
 ·subst h2
  have hps:=HE.out
  rw [if_neg h1,if_pos rfl] at hps
  subst hps
  clear h1
  go_wp2_with fail
  refine (HW.out.tx [] _ _ X2.out.1 (HOK.out [] _ [] rfl)).mono ?_
  rintro e w3 ⟨rfl,hI3,hk3⟩
  have X3:=show Hid (I [.tx ⟨#[102,97,108,115,101]⟩] w3∧KW w w3) from ⟨hI3,X2.out.2.kw.trans hk3⟩
  clear hI3 hk3
  go_wp2_with fail
  first | go_end0 | refine bodyPost_ret (results_none rfl _ _ _) rfl ?_
  exact ⟨rfl,X3.out.1,X3.out.2⟩
 have e2':(nk == 2)=false:=by simp [h2]
 have hps:=HE.out
 rw [if_neg h1,if_neg h2] at hps
 have HE2:=show Hid _ from hps
 clear hps HE h1 h2
 go_wp2_with fail
 refine (KT.out _ X2.out.1).mono ?_
 rintro e w3 ⟨rfl,hb3⟩
 have X3:=show Hid (I [] w3∧Ws w w3 b w1.heap.size ⟨nk,ns,nl,nr⟩ F1 F2 c1 c2) from ⟨HW.out.st _ _ _ X2.out.1 hb3,X2.out.2.next (KW.of_below hb3)⟩
 have n0':=X3.out.2.n4.c0;have n1':=X3.out.2.n4.c1;have n2':=X3.out.2.n4.c2;have n3':=X3.out.2.n4.c3
 have s0':=X3.out.2.p0.c0;have s1':=X3.out.2.p1.c0
 simp only at n0' n1' n2' n3'
 clear hb3 X2 KT n0 n1 n2 n3 s0 s1
 cases bt with
 | true =>
  have hps:=HE2.out
  simp only [if_true] at hps
  subst hps
  clear HE2
  go_wp2_with fail
  refine (HW.out.tx [] w3 _ X3.out.1 (HOK.out [] _ [] rfl)).mono ?_
  rintro e w4 ⟨rfl,hI4,hk4⟩
  have X4:=show Hid (I [.tx ⟨#[116,114,117,101]⟩] w4∧KW w w4) from ⟨hI4,X3.out.2.kw.trans hk4⟩
  clear hI4 hk4 X3
  go_wp2_with fail
  first | go_end0 | refine bodyPost_ret (results_none rfl _ _ _) rfl ?_
  exact ⟨rfl,X4.out.1,X4.out.2⟩
 | false =>
  have hps:=HE2.out
  simp only [Bool.false_eq_true,if_false] at hps
  have HE3:=show Hid _ from hps
  clear hps HE2
  go_wp2_with fail
  refine (KM.out w3 X3.out.1).mono ?_
  rintro e w4 ⟨rfl,hb4⟩
  have X4:=show Hid (I [] w4∧Ws w w4 b w1.heap.size ⟨nk,ns,nl,nr⟩ F1 F2 c1 c2) from ⟨HW.out.st _ _ _ X3.out.1 hb4,X3.out.2.next (KW.of_below hb4)⟩
  have n0:=X4.out.2.n4.c0;have n1:=X4.out.2.n4.c1;have n2:=X4.out.2.n4.c2;have n3:=X4.out.2.n4.c3
  have s0:=X4.out.2.p0.c0;have s1:=X4.out.2.p1.c0
  simp only at n0 n1 n2 n3
  clear hb4 X3 KM n0' n1' n2' n3' s0' s1'
  cases bn with
  | true =>
   have hps:=HE3.out
   simp only [if_true] at hps
   subst hps
   clear HE3
   go_wp2_with fail
   refine (HW.out.tx [] w4 _ X4.out.1 (HOK.out [] _ _ rfl)).mono ?_
   rintro e w5 ⟨rfl,hI5,hk5⟩
   have X5:=show Hid (I [.tx ⟨#[126]⟩] w5∧Ws w w5 b w1.heap.size ⟨nk,ns,nl,nr⟩ F1 F2 c1 c2) from ⟨hI5,X4.out.2.next hk5⟩
   have r2:=X5.out.2.n4.c2
   simp only at r2
   clear hI5 hk5 X4 n0 n1 n2 n3 s0 s1
   go_wp2_with fail
   refine (KE.out w5 [.tx ⟨#[126]⟩] nl 4 X5.out.1 _ _ X5.out.2 (fun pre x post h=>HOK.out (.tx ⟨#[126]⟩ :: pre) x post (by rw [h];rfl))).mono ?_
   rintro e w6 ⟨rfl,hI6,hk6⟩
   have X6:=show Hid (I (.tx ⟨#[126]⟩ :: Pr.enc t nl 4) w6∧KW w w6) from ⟨hI6,X5.out.2.kw.trans hk6⟩
   clear hI6 hk6 X5 KE
   go_wp2_with fail
   first | go_end0 | refine bodyPost_ret (results_none rfl _ _ _) rfl ?_
   exact ⟨rfl,X6.out.1,X6.out.2⟩
  | false =>
   have hps:=HE3.out
   simp only [Bool.false_eq_true,if_false] at hps
   have HE4:=show Hid _ from hps
   clear hps HE3
   go_wp2_with fail
   refine (KL.out w4 X4.out.1).mono ?_
   rintro e w5 ⟨rfl,hb5⟩
   have X5:=show Hid (I [] w5∧Ws w w5 b w1.heap.size ⟨nk,ns,nl,nr⟩ F1 F2 c1 c2) from ⟨HW.out.st _ _ _ X4.out.1 hb5,X4.out.2.next (KW.of_below hb5)⟩
   have m0:=X5.out.2.n4.c0;have m2:=X5.out.2.n4.c2
   simp only at m0 m2
   have hl1:=hlv.1
   have hl2:=hlv.2
   clear hb5 X4 KL n0 n1 n2 n3 s0 s1
   obtain ⟨la,lb,hab⟩:∃ la lb:Int,(la,lb)=if nk=5 then (lv+1,lv) else (lv,lv+1):=⟨_,_,rfl⟩
   have HE5:=show Hid (ps=Pr.enc t nl la ++ (.tx (Pr.sign nk) :: Pr.enc t nr lb)) from by
    show ps=_
    rw [HE4.out]
    by_cases h5:nk=5
    ·rw [if_pos h5] at hab ⊢
     cases hab;rfl
    ·rw [if_neg h5] at hab ⊢
     cases hab;rfl
   have hps:=HE5.out
   subst hps
   clear HE4 HE5
   by_cases h5:nk=5
   ·rw [if_pos h5] at hab
    cases hab
    subst h5
    go_wp2_with fail
    refine (KE.out w5 [] nl (lv+1) X5.out.1 _ _ X5.out.2 (fun pre x post h=>HOK.out pre x (post ++ (.tx (Pr.sign 5) :: Pr.enc t nr lv)) (by rw [h];simp))).mono ?_
    rintro e w6 ⟨rfl,hI6,hk6⟩
    have X6:=show Hid (I (Pr.enc t nl (lv+1)) w6∧Ws w w6 b w1.heap.size ⟨5,ns,nl,nr⟩ F1 F2 c1 c2) from ⟨hI6,X5.out.2.next hk6⟩
    have v0:=X6.out.2.n4.c0;have v1:=X6.out.2.p1.c0
    simp only at v0
    have vd:w6.drew.cell? ⟨w.heap.size+1,0,none⟩=some (.func (.func F1) #[] c1)∧w6.drew.cell? ⟨w1.heap.size,0,none⟩=some (.int .i64 5):=⟨v1,v0⟩
    have KX:=show Hid (Calls Tryz.prog F1 (#[.string (Pr.sign 5)] ++ c1) w6.drew fun e w'=>e=.returned (.tuple #[])∧I (Pr.enc t nl (lv+1) ++ [.tx (Pr.sign 5)]) w'∧Ws w w' b w1.heap.size ⟨5,ns,nl,nr⟩ F1 F2 c1 c2) from (HW.out.tx _ w6.drew (Pr.sign 5) (HW.out.st _ _ _ X6.out.1 (Below.refl _ _).drew) (HOK.out _ _ _ rfl)).mono fun e w' h=>⟨h.1,h.2.1,(X6.out.2.next (KW.of_below (Below.refl _ _).drew)).next h.2.2⟩
    have KS:=show Hid (∀ w,Calls Tryz.prog 200 #[.int .i64 5] w fun e w'=>e=.returned (.string (Pr.sign 5))∧w'=w) from fun w=>signP_any w 5
    generalize hsg:Pr.sign 5=sg at *
    have HSG:=show Hid _ from hsg
    clear hsg
    clear hI6 hk6 X5 m0 m2
    go_wp2_with fail
    go_region_held3 (fun wx=>wx.cell? ⟨w.heap.size+1,0,none⟩=some (.func (.func F1) #[] c1)∧wx.cell? ⟨w1.heap.size,0,none⟩=some (.int .i64 5)) (first | with_reducible assumption | go_keep) (first | (go_at_call 200;refine (KS.out _).mono ?_;rintro e wS ⟨rfl,hwS⟩;subst wS) | ((with_reducible refine Calls.mono KX.out ?_);rintro e w7 ⟨rfl,hI7,hs7⟩;have hS7:w7.cell? ⟨w.heap.size+1,0,none⟩=some (.func (.func F1) #[] c1)∧w7.cell? ⟨w1.heap.size,0,none⟩=some (.int .i64 5):=⟨hs7.p1.c0,hs7.n4.c0⟩))
    have X7:=show Hid (I (Pr.enc t nl (lv+1) ++ [.tx sg]) w7∧Ws w w7 b w1.heap.size ⟨5,ns,nl,nr⟩ F1 F2 c1 c2) from ⟨hI7,hs7⟩
    have t3:=X7.out.2.n4.c3
    simp only at t3
    clear hI7 hs7 hS7 KX KS X6 v0 v1 vd
    go_wp2_with fail
    refine (KE.out w7 _ nr lv X7.out.1 _ _ X7.out.2 (fun pre x post h=>by have:=HOK.out (Pr.enc t nl (lv+1) ++ (.tx sg :: pre)) x post (by rw [h];simp);simpa using this)).mono ?_
    rintro e w8 ⟨rfl,hI8,hk8⟩
    have X8:=show Hid (I (Pr.enc t nl (lv+1) ++ (.tx sg :: Pr.enc t nr lv)) w8∧KW w w8) from ⟨by simpa using hI8,X7.out.2.kw.trans hk8⟩
    clear hI8 hk8 X7 KE
    go_wp2_with fail
    first | go_end0 | refine bodyPost_ret (results_none rfl _ _ _) rfl ?_
    exact ⟨rfl,by rw [HSG.out];exact X8.out.1,X8.out.2⟩
   ·rw [if_neg h5] at hab
    cases hab
    have e5':(nk == 5)=false:=by simp [h5]
    clear h5
    go_wp2_with fail
    refine (KE.out w5 [] nl lv X5.out.1 _ _ X5.out.2 (fun pre x post h=>HOK.out pre x (post ++ (.tx (Pr.sign nk) :: Pr.enc t nr (lv+1))) (by rw [h];simp))).mono ?_
    rintro e w6 ⟨rfl,hI6,hk6⟩
    have X6:=show Hid (I (Pr.enc t nl lv) w6∧Ws w w6 b w1.heap.size ⟨nk,ns,nl,nr⟩ F1 F2 c1 c2) from ⟨hI6,X5.out.2.next hk6⟩
    have v0:=X6.out.2.n4.c0;have v1:=X6.out.2.p1.c0
    simp only at v0
    have vd:w6.drew.cell? ⟨w.heap.size+1,0,none⟩=some (.func (.func F1) #[] c1)∧w6.drew.cell? ⟨w1.heap.size,0,none⟩=some (.int .i64 nk):=⟨v1,v0⟩
    have KX:=show Hid (Calls Tryz.prog F1 (#[.string (Pr.sign nk)] ++ c1) w6.drew fun e w'=>e=.returned (.tuple #[])∧I (Pr.enc t nl lv ++ [.tx (Pr.sign nk)]) w'∧Ws w w' b w1.heap.size ⟨nk,ns,nl,nr⟩ F1 F2 c1 c2) from (HW.out.tx _ w6.drew (Pr.sign nk) (HW.out.st _ _ _ X6.out.1 (Below.refl _ _).drew) (HOK.out _ _ _ rfl)).mono fun e w' h=>⟨h.1,h.2.1,(X6.out.2.next (KW.of_below (Below.refl _ _).drew)).next h.2.2⟩
    have KS:=show Hid (∀ w,Calls Tryz.prog 200 #[.int .i64 nk] w fun e w'=>e=.returned (.string (Pr.sign nk))∧w'=w) from fun w=>signP_any w nk
    generalize hsg:Pr.sign nk=sg at *
    have HSG:=show Hid _ from hsg
    clear hsg
    clear hI6 hk6 X5 m0 m2
    go_wp2_with fail
    go_region_held3 (fun wx=>wx.cell? ⟨w.heap.size+1,0,none⟩=some (.func (.func F1) #[] c1)∧wx.cell? ⟨w1.heap.size,0,none⟩=some (.int .i64 nk)) (first | with_reducible assumption | go_keep) (first | (go_at_call 200;refine (KS.out _).mono ?_;rintro e wS ⟨rfl,hwS⟩;subst wS) | ((with_reducible refine Calls.mono KX.out ?_);rintro e w7 ⟨rfl,hI7,hs7⟩;have hS7:w7.cell? ⟨w.heap.size+1,0,none⟩=some (.func (.func F1) #[] c1)∧w7.cell? ⟨w1.heap.size,0,none⟩=some (.int .i64 nk):=⟨hs7.p1.c0,hs7.n4.c0⟩))
    have X7:=show Hid (I (Pr.enc t nl lv ++ [.tx sg]) w7∧Ws w w7 b w1.heap.size ⟨nk,ns,nl,nr⟩ F1 F2 c1 c2) from ⟨hI7,hs7⟩
    have t3:=X7.out.2.n4.c3
    simp only at t3
    clear hI7 hs7 hS7 KX KS X6 v0 v1 vd
    go_wp2_with fail
    refine (KE.out w7 _ nr (lv+1) X7.out.1 _ _ X7.out.2 (fun pre x post h=>by have:=HOK.out (Pr.enc t nl lv ++ (.tx sg :: pre)) x post (by rw [h];simp);simpa using this)).mono ?_
    rintro e w8 ⟨rfl,hI8,hk8⟩
    have X8:=show Hid (I (Pr.enc t nl lv ++ (.tx sg :: Pr.enc t nr (lv+1))) w8∧KW w w8) from ⟨by simpa using hI8,X7.out.2.kw.trans hk8⟩
    clear hI8 hk8 X7 KE
    go_wp2_with fail
    first | go_end0 | refine bodyPost_ret (results_none rfl _ _ _) rfl ?_
    exact ⟨rfl,by rw [HSG.out];exact X8.out.1,X8.out.2⟩
end
end Go.Proofs.YtkmmlimekachbaaGreatDoor

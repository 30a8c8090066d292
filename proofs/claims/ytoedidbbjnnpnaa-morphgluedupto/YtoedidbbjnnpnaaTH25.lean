/-
  heads: what comes at the chapter's models, by plain facts.
-/
import Derived.Test.YtoedidbbjnnpnaaTH10
import Derived.Test.YtoedidbbjnnpnaaQMAbv
import Derived.Test.YtoedidbbjnnpnaaQMUnr
import Derived.Test.YtoedidbbjnnpnaaQMQuoW
import Derived.Test.YtoedidbbjnnpnaaQMGlu
import Derived.Test.YtoedidbbjnnpnaaTH13
import Derived.Test.YtoedidbbjnnpnaaTH17
namespace Go.Proofs.Ytoedidbbjnnpnaa.Wm
open Go.RowKit
open Wd (Md Rc Ed Sub upd vl allW inW names)
set_option linter.unusedVariables false
theorem dmd_above:numsTo (fun x=>T4 1 x.toNat) dmd.up.length=[1,3]:=by decide
def dCls (w:Nat):Nat:=if w=0 then 0 else if w=1∨w=2 then 1 else 2
def dE (a b:Nat):Bool:=dCls a == dCls b
theorem dE_eqv:Eqv dE:=⟨fun a=>by simp [dE],fun a b h=>by simp [dE] at h ⊢;exact h.symm,fun a b c h k=>by simp [dE] at h k ⊢;exact h.trans k⟩
theorem dmd_lt {a b:Nat} (ha:a<dmd.up.length) (h:Rc dmd.up a b):b<dmd.up.length:=Wd.rc_lt dmd_in h ha
theorem dmd_cls:ClsP dmd dCls:=by
 have v0:vl dmd 0=[]:=rfl
 have v1:vl dmd 1=[bp]:=rfl
 have v2:vl dmd 2=[bp]:=rfl
 have v3:vl dmd 3=[bp,bq]:=rfl
 have n01:([]:List ByteArray)≠[bp]:=by simp
 have n03:([]:List ByteArray)≠[bp,bq]:=by simp
 have n13:[bp]≠[bp,bq]:=by simp
 have hq0:∀ a,a<4→∀ b,b<4→dCls a=dCls b→a=b∨(a=1∧b=2)∨(a=2∧b=1):=by decide
 have hq:∀ a b,a<4→b<4→dCls a=dCls b→a=b∨(a=1∧b=2)∨(a=2∧b=1):=fun a b ha hb=>hq0 a ha b hb
 have hv:∀ a b,a<4→b<4→dCls a≠dCls b→vl dmd a≠vl dmd b:=fun a b ha hb hne=>by
  rcases lt4 ha with rfl | rfl | rfl | rfl <;> rcases lt4 hb with rfl | rfl | rfl | rfl <;> first
   | (exact absurd rfl hne)
   | (rw [v0,v1];exact n01) | (rw [v0,v2];exact n01) | (rw [v0,v3];exact n03)
   | (rw [v1,v0];exact n01.symm) | (rw [v2,v0];exact n01.symm) | (rw [v3,v0];exact n03.symm)
   | (rw [v1,v3];exact n13) | (rw [v2,v3];exact n13) | (rw [v3,v1];exact n13.symm) | (rw [v3,v2];exact n13.symm)
 refine ⟨⟨dE,dE_eqv,by decide⟩,fun a b ha hb e => ?_,fun a b ha hb e c hc => ?_,fun B hB a b hab => ?_⟩
 ·rcases hq a b ha hb e with rfl | ⟨rfl,rfl⟩ | ⟨rfl,rfl⟩ <;> rfl
 ·rcases hq a b ha hb e with rfl | ⟨rfl,rfl⟩ | ⟨rfl,rfl⟩
  ·exact hc
  ·obtain ⟨x,h1,rfl⟩:=hc
   have k1:=(isO_dmd _ _).2 h1
   have hx:x=1∨x=3:=by simp [T4] at k1;omega
   rcases hx with rfl | rfl
   ·exact ⟨2,.refl _,rfl⟩
   ·exact ⟨3,(isO_dmd _ _).1 (by decide),rfl⟩
  ·obtain ⟨x,h1,rfl⟩:=hc
   have k1:=(isO_dmd _ _).2 h1
   have hx:x=2∨x=3:=by simp [T4] at k1;omega
   rcases hx with rfl | rfl
   ·exact ⟨1,.refl _,rfl⟩
   ·exact ⟨3,(isO_dmd _ _).1 (by decide),rfl⟩
 ·obtain ⟨ha,hb⟩:=hB.lt a b hab
  cases hd:decide (dCls a=dCls b)
  ·exact absurd (hB.val a b hab) (hv a b ha hb (of_decide_eq_false hd))
  ·exact of_decide_eq_true hd
theorem dmd_cn {E:Nat→Nat→Bool} (h:ClsP dmd (cnF E)):(List.range dmd.up.length).map (cnF E)=[0,1,1,2]:=by
 have h1:=h.one dmd_cls fun a b ha hr=>dmd_lt ha hr
 have e:(List.range dmd.up.length).map (cnF E)=(List.range dmd.up.length).map dCls:=List.map_congr_left fun a ha=>h1 a (List.mem_range.1 ha)
 rw [e];decide
theorem dmd_q3 {E:Nat→Nat→Bool} {q:Md} (h:ClsP dmd (cnF E)) (hq:IsQ dmd q (cnF E)):q.up.length=3:=by
 have h1:=h.one dmd_cls fun a b ha hr=>dmd_lt ha hr
 have h2:2<q.up.length:=(hq.ex 2).2 ⟨3,by decide,by rw [h1 3 (by decide)];decide⟩
 have h3:¬ 3<q.up.length:=fun hl=>by
  obtain ⟨a,ha,e⟩:=(hq.ex 3).1 hl
  rw [h1 a ha] at e
  unfold dCls at e
  split at e
  ·omega
  ·split at e <;> omega
 omega
theorem q_bnd {m q:Md} {E M':Nat→Nat→Bool} (hq:IsQ m q (cnF E)) (hQ:Wd.Good q) (hO:IsO q.up M') {fl:List Int} (hf:∀ a,a<m.up.length→numF fl a=cnF E a) (hlt:∀ a b,a<m.up.length→Rc m.up a b→b<m.up.length):BndP m (tdM q M') fl:=fun a ha=>by
 obtain ⟨h1,h2⟩:=hq.bnd hf hlt a ha
 exact ⟨h1,fun c=>by rw [tdM_rc hO hQ];exact h2 c⟩
theorem dmd_unr {k:Nat} (h1:∀ j,j<k→j<(uEnds (tdU T4 4 4) 0 j).length) (h2:(k<(uEnds (tdU T4 4 4) 0 k).length∧512<(uEnds (tdU T4 4 4) 0 (k+1)).length)∨k=(uEnds (tdU T4 4 4) 0 k).length):k=5∧uEnds (tdU T4 4 4) 0 k=[0,1,2,3,3]∧k=(uEnds (tdU T4 4 4) 0 k).length:=by
 have hk:k≤5:=by
  rcases Nat.lt_or_ge 5 k with h | h
  ·exact absurd (h1 5 h) (by decide +kernel)
  ·exact h
 match k,hk with
 | 0,_=>exact absurd h2 (by decide +kernel)
 | 1,_=>exact absurd h2 (by decide +kernel)
 | 2,_=>exact absurd h2 (by decide +kernel)
 | 3,_=>exact absurd h2 (by decide +kernel)
 | 4,_=>exact absurd h2 (by decide +kernel)
 | 5,_=>exact ⟨rfl,by decide +kernel,by decide +kernel⟩
end Go.Proofs.Ytoedidbbjnnpnaa.Wm
/-
  heads: the two models glued, by plain facts.
-/
namespace Go.Proofs.Ytoedidbbjnnpnaa.Wm
open Go.RowKit
open Wd (Md Rc Ed Sub upd vl allW inW names)
set_option linter.unusedVariables false
def mdP:Md:=⟨[[]],[[bp]]⟩
def mdO:Md:=⟨[[]],[[]]⟩
theorem one_rc {v:List (List ByteArray)} {a b:Nat} (h:Rc (⟨[[]],v⟩:Md).up a b):a=b:=by
 cases h with
 | refl=>rfl
 | step e _ =>
  obtain ⟨r,hr,hb⟩:=e
  match a,hr with
  | 0,hr=>cases hr;simp at hb
  | a+1,hr=>cases hr
theorem good_one {v:List ByteArray} (hv:names none v=true):Wd.Good ⟨[[]],[v]⟩:=by
 refine ⟨?_,fun a b ha h1 h2=>one_rc h1,fun a b ha h => ?_⟩
 ·unfold Wd.shaped
  simp [hv,Wd.allW]
 ·rw [one_rc h];exact fun x hx=>hx
theorem good_P:Wd.Good mdP:=good_one (by decide +kernel)
theorem good_O:Wd.Good mdO:=good_one (by decide +kernel)
theorem one_root {v:List (List ByteArray)} {M:Nat→Nat→Bool} {r:Int} (hG:Wd.Good ⟨[[]],v⟩) (hO:IsO (⟨[[]],v⟩:Md).up M):¬ RootR M ⟨[[]],v⟩ r false:=by
 have h0:M 0 0=true:=(hO 0 0).2 (.refl 0)
 rintro (⟨h,_⟩ | ⟨_,_,_,h⟩ | ⟨k,_,_,_,h,_⟩)
 ·exact h hG
 ·have:=h 0 (Nat.lt_succ_self 0)
  simp [h0] at this
 ·cases h
def glU:List (List Int):=[[1,2],[],[]]
theorem gl_up {rs:Nat→Nat} (h0:rs 0=0) (h1:rs 1=0):gUp [mdP,mdO] rs 2 0=glU:=by
 have e:gRow0 [mdP,mdO] rs 2=[1,2]:=by
  show [((gN [mdP,mdO] 0+rs 0:Nat):Int),((gN [mdP,mdO] 1+rs 1:Nat):Int)]=[1,2]
  rw [h0,h1];decide
 unfold gUp
 rw [e];decide
theorem gl_val (atoms:List ByteArray):gVal [mdP,mdO] atoms 2 0=[atoms,[bp],[]]:=rfl
theorem gl_ed {a b:Nat} (h:Ed glU a b):a=0∧(b=1∨b=2):=by
 obtain ⟨r,hr,hb⟩:=h
 match a,hr with
 | 0,hr=>cases hr;simp at hb;omega
 | 1,hr=>cases hr;simp at hb
 | 2,hr=>cases hr;simp at hb
 | a+3,hr=>cases hr
theorem gl_rc {a b:Nat} (h:Rc glU a b):a=b∨(a=0∧(b=1∨b=2)):=by
 induction h with
 | refl=>exact Or.inl rfl
 | step e _ ih =>
  have h1:=gl_ed e
  omega
theorem gl_good:Wd.Good ⟨glU,[[],[bp],[]]⟩:=by
 refine ⟨by decide +kernel,fun a b ha h1 h2 => ?_,fun a b ha h => ?_⟩
 ·have k1:=gl_rc h1
  have k2:=gl_rc h2
  omega
 ·rcases gl_rc h with rfl | ⟨rfl,_⟩
  ·exact fun x hx=>hx
  ·exact fun x hx=>by cases hx
theorem gl_bad:¬ Wd.Good ⟨glU,[[bp],[bp],[]]⟩:=fun h=>by
 have h1:=h.mono 0 2 (by decide) (.one ⟨_,rfl,by simp⟩)
 have h2:=h1 bp (List.mem_singleton.2 rfl)
 cases h2
end Go.Proofs.Ytoedidbbjnnpnaa.Wm
/-
  heads: what must come at any rate. No condition.
-/
namespace Go.Proofs.Ytoedidbbjnnpnaa.Wm
open Go.RowKit Go.Maps
open Wd (Md Rc Ed upd vl allW inW)
set_option linter.unusedSimpArgs false
set_option linter.unusedVariables false
theorem dmd_rows:(∀ r ∈ dmd.val,r.length * 16≤140737488355328)∧∀ r ∈ dmd.up,r.length * 8≤140737488355328:=by
 have h1:∀ r ∈ dmd.val,r.length≤2:=by decide
 have h2:∀ r ∈ dmd.up,r.length≤2:=by decide
 exact ⟨fun r hr=>by have:=h1 r hr;omega,fun r hr=>by have:=h2 r hr;omega⟩
theorem rowsZ_form {B n:Nat} {W:World} {u:Value} {ls:List (List Int)} (h:RowsZ B W u ls) (hn:ls.length=n):∃ p c,u=.slice p n c:=by
 obtain ⟨xs,h1,_⟩:=h
 rw [← hn]
 exact own_form h1
theorem rowsN_form {B:Nat} {W:World} {u:Value} {ls:List (List ByteArray)} (h:RowsN B W u ls):∃ p n c,u=.slice p n c:=by
 obtain ⟨xs,h1,_⟩:=h
 obtain ⟨p,c,e⟩:=own_form h1
 exact ⟨p,_,c,e⟩
theorem abm_dmd {W:World} {B:Nat} {u v l:Value} {er:Int} (h:AbmR W B dmd T4 1 u v l er):er=0∧OwnI B W l [1,3]∧(∃ p c,u=.slice p 2 c)∧∃ p n c,v=.slice p n c:=by
 rcases h with ⟨h,_⟩ | ⟨_,h,_⟩ | ⟨_,_,h1,l0,h2,h3,h4,h5⟩
 ·exact absurd good_dmd h
 ·exact absurd h (by decide)
 ·have e:l0=[1,3]:=h2.trans dmd_above
  subst e
  exact ⟨h1,h3,rowsZ_form h4 (tdU_len _ _ _),rowsN_form h5⟩
theorem cls_dmd {W:World} {B:Nat} {l:Value} {er:Int} (h:ClsR W B dmd l er):er=0∧OwnI B W l [0,1,1,2]:=by
 rcases h with ⟨h,_⟩ | ⟨_,h1,E,h2,h3,h4⟩
 ·exact absurd good_dmd h
 ·rw [dmd_cn h4] at h2
  exact ⟨h1,h2⟩
theorem quo_dmd {W:World} {B:Nat} {u v l:Value} {er:Int} (h:QuoR W B dmd u v l er):er=0∧∃ q,RowsZ B W u q.up∧RowsN B W v q.val∧Fit q∧Wd.Good q∧q.up.length=3∧∀ fl:List Int,fl=[0,1,1,2]→BndP dmd q fl:=by
 rcases h with ⟨h,_⟩ | ⟨_,h1,E,q,M',h2,h3,h4,h5,h6,h7,h8,h9,h10⟩
 ·exact absurd good_dmd h
 ·have h512:=(Wd.shaped_and h6.shape).2.1
  refine ⟨h1,tdM q M',h9,h10,fit_td h8 h512,good_td h7 h6,by rw [tdM_len];exact dmd_q3 h4 h5,fun fl hfl=>q_bnd h5 h6 h7 (fun a ha => ?_) fun a b ha hr=>dmd_lt ha hr⟩
  have h11:=dmd_cn h4
  have ha:a<4:=ha
  have e:∀ k,k<4→((List.range dmd.up.length).map (cnF E))[k]?=some (cnF E k):=fun k hk=>by
   rw [List.getElem?_map,List.getElem?_range (show k<dmd.up.length from hk)];rfl
  rw [h11] at e
  have e:=e a ha
  rw [hfl]
  rcases lt4 ha with rfl | rfl | rfl | rfl <;> (simp at e;rw [← e];rfl)
theorem unr_dmd {W:World} {B:Nat} {u v l:Value} {er:Int} (h:UnrR W B dmd T4 0 u v l er):er=0∧OwnI B W l [0,1,2,3,3]∧(∃ p c,u=.slice p 5 c)∧∃ p n c,v=.slice p n c:=by
 rcases h with ⟨h,_⟩ | ⟨_,h,_⟩ | ⟨_,_,k,t,h2,h3,h4,h5⟩
 ·exact absurd good_dmd h
 ·exact absurd h (by decide)
 ·subst h2
  obtain ⟨k1,k2,k3⟩:=dmd_unr (k:=k) h3 (by
   rcases h5 with ⟨a,b,_⟩ | ⟨a,_⟩
   ·exact Or.inl ⟨a,b⟩
   ·exact Or.inr a)
  rcases h5 with ⟨a,_⟩ | ⟨_,h6,h7,h8,h9⟩
  ·exact absurd (show k<(uEnds (tdU T4 4 4) 0 k).length from a) (by omega)
  ·have h7':OwnI B W l (uEnds (tdU T4 4 4) 0 k):=h7
   rw [k2] at h7'
   exact ⟨h6,h7',rowsZ_form h8 (by rw [uUp_len];exact k1),rowsN_form h9⟩
theorem glu_two {W:World} {B:Nat} {u v l:Value} {er:Int} (h:GluR W B [mdP,mdO] [] u v l er):er=0∧OwnI B W l [1,2]∧(∃ p c,u=.slice p 3 c)∧∃ p n c,v=.slice p n c:=by
 have hr1:∀ rs:Nat→Nat,(∀ k,k<2→∃ M,IsO (gM [mdP,mdO] k).up M∧RootR M (gM [mdP,mdO] k) (rs k:Int) true)→rs 0=0∧rs 1=0:=fun rs h=>by
  refine ⟨?_,?_⟩
  ·obtain ⟨M,_,h⟩:=h 0 (by decide)
   rcases h with ⟨_,_,h⟩ | ⟨_,_,h,_⟩ | ⟨q,_,k1,k2,_⟩
   ·cases h
   ·cases h
   ·have k1:q<1:=k1
    omega
  ·obtain ⟨M,_,h⟩:=h 1 (by decide)
   rcases h with ⟨_,_,h⟩ | ⟨_,_,h,_⟩ | ⟨q,_,k1,k2,_⟩
   ·cases h
   ·cases h
   ·have k1:q<1:=k1
    omega
 rcases h with ⟨⟨m,hm,h⟩,_⟩ | ⟨_,⟨m,hm,M,r,hO,h⟩,_⟩ | ⟨_,rs,h1,h2⟩
 ·rcases List.mem_cons.1 hm with rfl | hm
  ·exact absurd good_P h
  ·rw [List.mem_singleton.1 hm] at h;exact absurd good_O h
 ·rcases List.mem_cons.1 hm with rfl | hm
  ·exact absurd h (one_root good_P hO)
  ·rw [List.mem_singleton.1 hm] at h hO;exact absurd h (one_root good_O hO)
 ·obtain ⟨r0,r1⟩:=hr1 rs h1
  have e1:gUp [mdP,mdO] rs [mdP,mdO].length 0=glU:=gl_up r0 r1
  have e2:gVal [mdP,mdO] [] [mdP,mdO].length 0=[[],[bp],[]]:=gl_val []
  rw [e1,e2] at h2
  rcases h2 with ⟨h,_⟩ | ⟨_,h3,M',_,h4,h5,h6⟩
  ·exact absurd gl_good h
  ·exact ⟨h3,h4,rowsZ_form h5 (tdU_len _ _ _),rowsN_form h6⟩
theorem glu_bad {W:World} {B:Nat} {u v l:Value} {er:Int} (h:GluR W B [mdP,mdO] [bp] u v l er):er=190∧u=.slice none 0 0∧v=.slice none 0 0∧l=.slice none 0 0:=by
 rcases h with ⟨⟨m,hm,h⟩,_⟩ | ⟨_,⟨m,hm,M,r,hO,h⟩,_⟩ | ⟨_,rs,h1,h2⟩
 ·rcases List.mem_cons.1 hm with rfl | hm
  ·exact absurd good_P h
  ·rw [List.mem_singleton.1 hm] at h;exact absurd good_O h
 ·rcases List.mem_cons.1 hm with rfl | hm
  ·exact absurd h (one_root good_P hO)
  ·rw [List.mem_singleton.1 hm] at h hO;exact absurd h (one_root good_O hO)
 ·have hz:∀ k,k<2→rs k=0:=fun k hk=>by
   obtain ⟨M,_,h⟩:=h1 k hk
   have hl:(gM [mdP,mdO] k).up.length=1:=by
    rcases (show k=0∨k=1 by omega) with rfl | rfl <;> rfl
   rcases h with ⟨_,_,h⟩ | ⟨_,_,h,_⟩ | ⟨q,_,k1,k2,_⟩
   ·cases h
   ·cases h
   ·omega
  have e1:gUp [mdP,mdO] rs [mdP,mdO].length 0=glU:=gl_up (hz 0 (by decide)) (hz 1 (by decide))
  have e2:gVal [mdP,mdO] [bp] [mdP,mdO].length 0=[[bp],[bp],[]]:=gl_val [bp]
  rw [e1,e2] at h2
  rcases h2 with ⟨_,h⟩ | ⟨h,_⟩
  ·exact h
  ·exact absurd h gl_bad
end Go.Proofs.Ytoedidbbjnnpnaa.Wm

/-
  Plain mathematics: reading, as a relation. No condition.
-/
import Derived.Test.YtkmmlimekachbaaGreatDoorPG
import Derived.Test.YtkmmlimekachbaaGreatDoorPRM
import Derived.Test.YtkmmlimekachbaaGreatDoorTG1
import Derived.Test.YtkmmlimekachbaaGreatDoorSG5
namespace Go.Proofs.YtkmmlimekachbaaGreatDoor.Sx
theorem bnd_mono {x y:Option Out} {k k':T→Nat→Nat→Option Out} {o:Out} (h:∀ o,x=some o→y=some o) (hk:∀ a i n o,k a i n=some o→k' a i n=some o) (hb:bnd x k=some o):bnd y k'=some o:=by
 cases x with
 | none=>simp [bnd] at hb
 | some u =>
  rw [h u rfl]
  cases u with
  | ok a i n=>exact hk a i n o hb
  | bad e t=>exact hb
theorem stp_mono {ts:List Tn} {i n:Nat} {k k':Nat→Option Out} {o:Out} (hk:∀ n o,k n=some o→k' n=some o) (hb:stp ts i n k=some o):stp ts i n k'=some o:=by
 unfold stp at hb ⊢
 split
 ·rename_i h;rw [if_pos h] at hb;exact hb
 ·rename_i h;rw [if_neg h] at hb;exact hk _ _ hb
theorem ite_mono {c:Prop} [Decidable c] {a b a' b':Option Out} {o:Out} (h1:a=some o→a'=some o) (h2:b=some o→b'=some o) (h:(if c then a else b)=some o):(if c then a' else b')=some o:=by
 by_cases hc:c
 ·rw [if_pos hc] at h ⊢;exact h1 h
 ·rw [if_neg hc] at h ⊢;exact h2 h
theorem rd_mono (ts:List Tn):∀ (f:Nat) (lv:Lv) (i n d:Nat) (o:Out),rd ts f lv i n d=some o→rd ts (f+1) lv i n d=some o
 | 0,lv,i,n,d,o,h=>by simp [rd] at h
 | f+1,lv,i,n,d,o,h=>by
  have ih:=rd_mono ts f
  cases lv with
  | formula=>exact bnd_mono (ih _ _ _ _) (fun a i n o=>ite_mono (stp_mono fun n o=>bnd_mono (ih _ _ _ _) fun b i n o h=>h) id) h
  | implied=>exact bnd_mono (ih _ _ _ _) (fun a i n o=>ite_mono (stp_mono fun n o=>bnd_mono (ih _ _ _ _) fun b i n o h=>h) id) h
  | joined=>exact bnd_mono (ih _ _ _ _) (fun a i n o=>ih _ _ _ _ o) h
  | both=>exact bnd_mono (ih _ _ _ _) (fun a i n o=>ih _ _ _ _ o) h
  | ors a=>exact ite_mono (stp_mono fun n o=>bnd_mono (ih _ _ _ _) fun b i n o=>ih _ _ _ _ o) id h
  | ands a=>exact ite_mono (stp_mono fun n o=>bnd_mono (ih _ _ _ _) fun b i n o=>ih _ _ _ _ o) id h
  | single =>
   refine ite_mono (stp_mono fun n o=>bnd_mono (ih _ _ _ _) fun b i n o h=>h) ?_ h
   refine ite_mono (ite_mono id (stp_mono fun n o=>bnd_mono (ih _ _ _ _) fun a i n o h=>h)) id
theorem rd_le (ts:List Tn) {f g:Nat} (hfg:f≤g) {lv:Lv} {i n d:Nat} {o:Out} (h:rd ts f lv i n d=some o):rd ts g lv i n d=some o:=by
 obtain ⟨k,rfl⟩:=Nat.exists_eq_add_of_le hfg
 induction k with
 | zero=>exact h
 | succ k ih=>exact rd_mono ts _ _ _ _ _ _ (ih (by omega))
def Rd (ts:List Tn) (lv:Lv) (i n d:Nat) (o:Out):Prop:=∃ f,rd ts f lv i n d=some o
section
variable {ts:List Tn} {i n d i1 n1 i2 n2:Nat} {a b:T} {o:Out}
theorem up_no (h:counts (tk ts i)=false):up ts i n=n:=by unfold up;rw [h];rfl
theorem stp_go {k:Nat→Option Out} (h:up ts i n≤512):stp ts i n k=k (up ts i n):=if_neg (by omega)
theorem Rd.formula (h1:Rd ts .implied i n d (.ok a i1 n1)) (h:sgn (tk ts i1) sIff=false):Rd ts .formula i n d (.ok a i1 n1):=by
 obtain ⟨f,hf⟩:=h1
 refine ⟨f+1,?_⟩
 show bnd (rd ts f .implied i n d) _=_
 rw [hf]
 simp [bnd,h]
theorem Rd.implied (h1:Rd ts .joined i n d (.ok a i1 n1)) (h:sgn (tk ts i1) sImp=false):Rd ts .implied i n d (.ok a i1 n1):=by
 obtain ⟨f,hf⟩:=h1
 refine ⟨f+1,?_⟩
 show bnd (rd ts f .joined i n d) _=_
 rw [hf]
 simp [bnd,h]
theorem Rd.imp (h1:Rd ts .joined i n d (.ok a i1 n1)) (h:sgn (tk ts i1) sImp=true) (hu:up ts i1 n1≤512) (h2:Rd ts .implied (i1+1) (up ts i1 n1) d (.ok b i2 n2)):Rd ts .implied i n d (.ok (.bin 5 a b) i2 n2):=by
 obtain ⟨f,hf⟩:=h1
 obtain ⟨g,hg⟩:=h2
 refine ⟨f+g+1,?_⟩
 show bnd (rd ts (f+g) .joined i n d) _=_
 rw [rd_le ts (by omega) hf]
 show (if sgn (tk ts i1) sImp then _ else _)=_
 rw [if_pos h,stp_go hu,rd_le ts (by omega) hg]
 rfl
theorem Rd.joined (h1:Rd ts .both i n d (.ok a i1 n1)) (h2:Rd ts (.ors a) i1 n1 d o):Rd ts .joined i n d o:=by
 obtain ⟨f,hf⟩:=h1
 obtain ⟨g,hg⟩:=h2
 refine ⟨f+g+1,?_⟩
 show bnd (rd ts (f+g) .both i n d) _=_
 rw [rd_le ts (by omega) hf]
 exact rd_le ts (by omega) hg
theorem Rd.both (h1:Rd ts .single i n d (.ok a i1 n1)) (h2:Rd ts (.ands a) i1 n1 d o):Rd ts .both i n d o:=by
 obtain ⟨f,hf⟩:=h1
 obtain ⟨g,hg⟩:=h2
 refine ⟨f+g+1,?_⟩
 show bnd (rd ts (f+g) .single i n d) _=_
 rw [rd_le ts (by omega) hf]
 exact rd_le ts (by omega) hg
theorem Rd.orsEnd (h:sgn (tk ts i) sOr=false):Rd ts (.ors a) i n d (.ok a i n):=⟨1,by show (if sgn (tk ts i) sOr then _ else _)=_;rw [h];rfl⟩
theorem Rd.andsEnd (h:sgn (tk ts i) sAnd=false):Rd ts (.ands a) i n d (.ok a i n):=⟨1,by show (if sgn (tk ts i) sAnd then _ else _)=_;rw [h];rfl⟩
theorem Rd.ors (h:sgn (tk ts i) sOr=true) (hu:up ts i n≤512) (h1:Rd ts .both (i+1) (up ts i n) d (.ok b i1 n1)) (h2:Rd ts (.ors (.bin 4 a b)) i1 n1 d o):Rd ts (.ors a) i n d o:=by
 obtain ⟨f,hf⟩:=h1
 obtain ⟨g,hg⟩:=h2
 refine ⟨f+g+1,?_⟩
 show (if sgn (tk ts i) sOr then _ else _)=_
 rw [if_pos h,stp_go hu,rd_le ts (show f≤f+g by omega) hf]
 exact rd_le ts (by omega) hg
theorem Rd.ands (h:sgn (tk ts i) sAnd=true) (hu:up ts i n≤512) (h1:Rd ts .single (i+1) (up ts i n) d (.ok b i1 n1)) (h2:Rd ts (.ands (.bin 3 a b)) i1 n1 d o):Rd ts (.ands a) i n d o:=by
 obtain ⟨f,hf⟩:=h1
 obtain ⟨g,hg⟩:=h2
 refine ⟨f+g+1,?_⟩
 show (if sgn (tk ts i) sAnd then _ else _)=_
 rw [if_pos h,stp_go hu,rd_le ts (show f≤f+g by omega) hf]
 exact rd_le ts (by omega) hg
theorem Rd.neg (h:sgn (tk ts i) sNot=true) (hu:up ts i n≤512) (h1:Rd ts .single (i+1) (up ts i n) d (.ok a i1 n1)):Rd ts .single i n d (.ok (.neg a) i1 n1):=by
 obtain ⟨f,hf⟩:=h1
 refine ⟨f+1,?_⟩
 show (if sgn (tk ts i) sNot then _ else _)=_
 rw [if_pos h,stp_go hu,hf]
 rfl
theorem Rd.paren (h0:sgn (tk ts i) sNot=false) (h:sgn (tk ts i) sOpen=true) (hd:d≠1024) (hc:counts (tk ts i)=false) (hn:n≤512) (h1:Rd ts .formula (i+1) n (d+1) (.ok a i1 n1)) (h2:sgn (tk ts i1) sShut=true) (hc2:counts (tk ts i1)=false) (hn1:n1≤512):Rd ts .single i n d (.ok a (i1+1) n1):=by
 obtain ⟨f,hf⟩:=h1
 refine ⟨f+1,?_⟩
 show (if sgn (tk ts i) sNot then _ else if sgn (tk ts i) sOpen then (if d=1024 then _ else stp ts i n fun n=>bnd (rd ts f .formula (i+1) n (d+1)) _) else _)=_
 rw [h0,h]
 simp only [if_true,Bool.false_eq_true,if_false]
 rw [if_neg hd,stp_go (by rw [up_no hc];exact hn),up_no hc,hf]
 show (if sgn (tk ts i1) sShut then stp ts i1 n1 _ else _)=_
 rw [if_pos h2,stp_go (by rw [up_no hc2];exact hn1),up_no hc2]
theorem Rd.name (h0:sgn (tk ts i) sNot=false) (h1:sgn (tk ts i) sOpen=false) (hk:(tk ts i).k=1) (hm:named (tk ts i).s=some a) (hu:up ts i n≤512):Rd ts .single i n d (.ok a (i+1) (up ts i n)):=by
 refine ⟨1,?_⟩
 show (if sgn (tk ts i) sNot then _ else if sgn (tk ts i) sOpen then _ else if (tk ts i).k=1 then (match named (tk ts i).s with | none=>_ | some a=>stp ts i n _) else _)=_
 rw [h0,h1,hm]
 simp only [Bool.false_eq_true,if_false]
 rw [if_pos hk,stp_go hu]
end
end Go.Proofs.YtkmmlimekachbaaGreatDoor.Sx
/-
  Plain mathematics: the tree of a formula of a table, put into the table again, is its number, and nothing is put. No condition.
-/
namespace Go.Proofs.YtkmmlimekachbaaGreatDoor
open Fm (Nd)
open Sx (T)
namespace Rp
section
variable {t:List Nd}
theorem check_there (hT:Fm.Ok t) {i:Int} (hi:Fm.has t i=true):Fm.check t (nodeOf t i)=0:=by
 obtain ⟨k,rfl,hk,hn⟩:=Pr.node_at hi
 rw [hn]
 have h:=hT.chk k hk
 have hs:=Fm.shaped_mono (Fm.check_shaped h) (show (t.take k).length≤t.length by simp;omega)
 unfold Fm.check at h ⊢
 rw [if_pos hs]
 rw [if_pos (Fm.check_shaped (hT.chk k hk))] at h
 exact h
theorem put_there (hT:Fm.Ok t) {i:Int} (hi:Fm.has t i=true) {n:Nd} (hn:nodeOf t i=n):Fm.put t n=(i,0,t):=by
 have hc:=check_there hT hi
 rw [hn] at hc
 obtain ⟨k,rfl,hk,hnk⟩:=Pr.node_at hi
 have hm:n ∈ t:=by rw [← hn,hnk];exact List.getElem_mem hk
 unfold Fm.put
 rw [if_pos hc,if_pos hm]
 have h1:=List.idxOf_lt_length_iff.2 hm
 have h2:t[t.idxOf n]=n:=List.getElem_idxOf h1
 have h3:t.idxOf n=k:=(List.getElem_inj hT.nd).1 (h2.trans (hn.symm.trans hnk))
 rw [h3]
def tree (t:List Nd):Nat→Int→T
 | 0,_=>.bot
 | f+1,i=>if (nodeOf t i).k=1 then .atom (nodeOf t i).s else if (nodeOf t i).k=2 then .bot else if Pr.isTrue t (nodeOf t i) then .top else if Pr.isNot t (nodeOf t i) then .neg (tree t f (nodeOf t i).l) else .bin (nodeOf t i).k (tree t f (nodeOf t i).l) (tree t f (nodeOf t i).r)
theorem notp_there (hT:Fm.Ok t) {i:Int} (hi:Fm.has t i=true) (h5:(nodeOf t i).k=5) (hr:Fm.has t (nodeOf t i).r=true) (h2:(nodeOf t (nodeOf t i).r).k=2) (hl:Fm.has t (nodeOf t i).l=true) (hs:(nodeOf t i).s=⟨#[]⟩):Fm.notp t (nodeOf t i).l=(i,0,t):=by
 have hb:=put_there hT hr (ok_bot hT hr h2)
 unfold Fm.notp
 rw [if_pos hl,hb]
 simp only [if_true]
 refine put_there hT hi ?_
 generalize nodeOf t i=n at *
 obtain ⟨nk,ns,nl,nr⟩:=n
 simp only at h5 hs
 subst h5 hs
 rfl
theorem shaped_at (hT:Fm.Ok t) {i:Int} (hi:Fm.has t i=true):Fm.shaped t (nodeOf t i)=true:=Fm.check_shaped (check_there hT hi)
theorem empty_of {s:ByteArray} (h:s.size=0):s=⟨#[]⟩:=by
 obtain ⟨a⟩:=s
 have:a=#[]:=Array.eq_empty_of_size_eq_zero h
 rw [this]
theorem atom_at (hT:Fm.Ok t) {i:Int} (hi:Fm.has t i=true) (h1:(nodeOf t i).k=1):nodeOf t i=⟨1,(nodeOf t i).s,0,0⟩:=by
 have h:=shaped_at hT hi
 unfold Fm.shaped at h
 rw [if_pos h1] at h
 simp only [Bool.and_eq_true,beq_iff_eq] at h
 generalize nodeOf t i=n at *
 obtain ⟨nk,ns,nl,nr⟩:=n
 simp only at h h1
 obtain ⟨rfl,rfl⟩:=h
 subst h1
 rfl
theorem kind_at (hT:Fm.Ok t) {i:Int} (hi:Fm.has t i=true) (h1:(nodeOf t i).k≠1) (h2:(nodeOf t i).k≠2):Fm.jn (nodeOf t i).k=true∧(nodeOf t i).s=⟨#[]⟩:=by
 have h:=shaped_at hT hi
 unfold Fm.shaped at h
 rw [if_neg h1,if_neg h2] at h
 cases hj:Fm.jn (nodeOf t i).k
 ·rw [hj] at h;simp at h
 ·rw [hj] at h
  simp only [if_true,Bool.and_eq_true,beq_iff_eq] at h
  exact ⟨rfl,empty_of h.1.1⟩
theorem pt_tree (hT:Fm.Ok t):∀ (f:Nat) (i:Int),Fm.has t i=true→i.toNat<f→Sx.pt (tree t f i) t=(i,0,t)
 | 0,_,_,h=>absurd h (by omega)
 | f+1,i,hi,hf=>by
  have h0:=Fm.has_iff.1 hi
  unfold tree
  by_cases h1:(nodeOf t i).k=1
  ·rw [if_pos h1]
   exact put_there hT hi (atom_at hT hi h1)
  rw [if_neg h1]
  by_cases h2:(nodeOf t i).k=2
  ·rw [if_pos h2]
   exact put_there hT hi (ok_bot hT hi h2)
  rw [if_neg h2]
  obtain ⟨hj,hs⟩:=kind_at hT hi h1 h2
  obtain ⟨⟨hl1,hl2⟩,hr1,hr2⟩:=parts_has hT hi hj
  have hl0:=Fm.has_iff.1 hl1
  have hr0:=Fm.has_iff.1 hr1
  have ihl:=pt_tree hT f (nodeOf t i).l hl1 (by omega)
  have ihr:=pt_tree hT f (nodeOf t i).r hr1 (by omega)
  by_cases hn:Pr.isNot t (nodeOf t i)=true
  ·have hn':=hn
   unfold Pr.isNot Pr.isFalse at hn'
   simp only [Bool.and_eq_true,beq_iff_eq] at hn'
   have hnp:=notp_there hT hi hn'.1 hr1 hn'.2 hl1 hs
   by_cases ht:Pr.isTrue t (nodeOf t i)=true
   ·rw [if_pos ht]
    unfold Pr.isTrue at ht
    simp only [Bool.and_eq_true,beq_iff_eq] at ht
    show Sx.thn (Fm.put t Fm.bot) (fun x t=>Fm.notp t x)=_
    rw [put_there hT hr1 (ok_bot hT hr1 hn'.2)]
    show Fm.notp t (nodeOf t i).r=_
    rw [← ht.2]
    exact hnp
   ·rw [if_neg ht,if_pos hn]
    show Sx.thn (Sx.pt (tree t f (nodeOf t i).l) t) (fun x t=>Fm.notp t x)=_
    rw [ihl]
    exact hnp
  ·have ht:¬ Pr.isTrue t (nodeOf t i)=true:=fun h=>hn (by unfold Pr.isTrue at h;simp only [Bool.and_eq_true] at h;exact h.1)
   rw [if_neg ht,if_neg hn]
   show Sx.thn (Sx.pt (tree t f (nodeOf t i).l) t) (fun x t'=>Sx.thn (Sx.pt (tree t f (nodeOf t i).r) t') fun y t'=>Fm.put t' ⟨(nodeOf t i).k,⟨#[]⟩,x,y⟩)=_
   rw [ihl]
   show Sx.thn (Sx.pt (tree t f (nodeOf t i).r) t) (fun y t'=>Fm.put t' ⟨(nodeOf t i).k,⟨#[]⟩,(nodeOf t i).l,y⟩)=_
   rw [ihr]
   show Fm.put t ⟨(nodeOf t i).k,⟨#[]⟩,(nodeOf t i).l,(nodeOf t i).r⟩=_
   exact put_there hT hi (by rw [← hs])
end
end Rp
end Go.Proofs.YtkmmlimekachbaaGreatDoor
/-
  Plain mathematics: the tokens of a formula's text, and how they are read. No condition.
-/
namespace Go.Proofs.YtkmmlimekachbaaGreatDoor
open Fm (Nd)
open Sx (T Tn Lv Rd tk sgn counts up)
namespace Bk
abbrev P:=Int × List UInt8
def pe (x:List P) (bare:Bool):List P:=if bare then x else (3,Sx.sOpen) :: (x ++ [(3,Sx.sShut)])
def wsg (k:Int):List UInt8:=if k=3 then Sx.sAnd else if k=4 then Sx.sOr else Sx.sImp
def pk (t:List Nd):Nat→Int→List P
 | 0,_=>[]
 | f+1,i=>if (nodeOf t i).k=1 then [(1,(nodeOf t i).s.data.toList)] else if (nodeOf t i).k=2 then [(1,Sx.wFalse)] else if Pr.isTrue t (nodeOf t i) then [(1,Sx.wTrue)]
  else if Pr.isNot t (nodeOf t i) then (3,Sx.sNot) :: pe (pk t f (nodeOf t i).l) (decide (4≤Pr.lvl t (nodeOf t i).l))
  else if (nodeOf t i).k=5 then pe (pk t f (nodeOf t i).l) (decide (2≤Pr.lvl t (nodeOf t i).l)) ++ ((3,Sx.sImp) :: pk t f (nodeOf t i).r)
  else pe (pk t f (nodeOf t i).l) (decide (Pr.lvl t i≤Pr.lvl t (nodeOf t i).l)) ++ ((3,wsg (nodeOf t i).k) :: pe (pk t f (nodeOf t i).r) (decide (Pr.lvl t i+1≤Pr.lvl t (nodeOf t i).r)))
def ct (x:P):Bool:=x.1 == 1 || (x.1 == 3 && (x.2 == Sx.sNot || x.2 == Sx.sAnd || x.2 == Sx.sOr || x.2 == Sx.sImp || x.2 == Sx.sIff))
def cn (x:List P):Nat:=(x.filter ct).length
theorem cn_app (x y:List P):cn (x ++ y)=cn x+cn y:=by simp [cn]
theorem cn_cons (a:P) (y:List P):cn (a :: y)=(if ct a then 1 else 0)+cn y:=by
 unfold cn
 cases h:ct a <;> simp [h]
 omega
def de (n:Nat) (bare:Bool):Nat:=if bare then n else n+1
def dp (t:List Nd):Nat→Int→Nat
 | 0,_=>0
 | f+1,i=>if (nodeOf t i).k=1 then 0 else if (nodeOf t i).k=2 then 0 else if Pr.isTrue t (nodeOf t i) then 0
  else if Pr.isNot t (nodeOf t i) then de (dp t f (nodeOf t i).l) (decide (4≤Pr.lvl t (nodeOf t i).l))
  else if (nodeOf t i).k=5 then max (de (dp t f (nodeOf t i).l) (decide (2≤Pr.lvl t (nodeOf t i).l))) (dp t f (nodeOf t i).r)
  else max (de (dp t f (nodeOf t i).l) (decide (Pr.lvl t i≤Pr.lvl t (nodeOf t i).l))) (de (dp t f (nodeOf t i).r) (decide (Pr.lvl t i+1≤Pr.lvl t (nodeOf t i).r)))
def Mt (ts:List Tn) (p:Nat) (x:List P):Prop:=∀ j (h:j<x.length),(tk ts (p+j)).k=x[j].1∧(tk ts (p+j)).s.data.toList=x[j].2
section
variable {ts:List Tn} {p:Nat}
theorem Mt.left {x y:List P} (h:Mt ts p (x ++ y)):Mt ts p x:=fun j hj=>by
 have:=h j (by simp;omega)
 rwa [List.getElem_append_left hj] at this
theorem Mt.right {x y:List P} (h:Mt ts p (x ++ y)):Mt ts (p+x.length) y:=fun j hj=>by
 have:=h (x.length+j) (by simp;omega)
 rw [List.getElem_append_right (by omega)] at this
 simp only [Nat.add_sub_cancel_left] at this
 rwa [← Nat.add_assoc] at this
theorem Mt.head {a:P} {y:List P} (h:Mt ts p (a :: y)):(tk ts p).k=a.1∧(tk ts p).s.data.toList=a.2:=h 0 (by simp)
theorem Mt.tail {a:P} {y:List P} (h:Mt ts p (a :: y)):Mt ts (p+1) y:=fun j hj=>by
 have:=h (j+1) (by simp;omega)
 rw [show p+(j+1)=p+1+j by omega] at this
 simpa using this
theorem sgn_at {a:P} {x:List UInt8} (h:(tk ts p).k=a.1∧(tk ts p).s.data.toList=a.2):sgn (tk ts p) x=(a.1 == 3 && a.2 == x):=by unfold Sx.sgn;rw [h.1,h.2]
theorem counts_at {a:P} (h:(tk ts p).k=a.1∧(tk ts p).s.data.toList=a.2):counts (tk ts p)=ct a:=by unfold Sx.counts ct;rw [h.1,h.2]
theorem up_at {a:P} {n:Nat} (h:(tk ts p).k=a.1∧(tk ts p).s.data.toList=a.2):up ts p n=n+(if ct a then 1 else 0):=by
 unfold Sx.up
 rw [counts_at h]
 cases ct a <;> rfl
end
structure Way (ts:List Tn) (lv:Int) (a:T) (x:List P) (p n d:Nat):Prop where
 single:lv=4→Rd ts .single p n d (.ok a (p+x.length) (n+cn x))
 both:3≤lv→∀ o,Rd ts (.ands a) (p+x.length) (n+cn x) d o→Rd ts .both p n d o
 joined:2≤lv→∀ o,sgn (tk ts (p+x.length)) Sx.sAnd=false→Rd ts (.ors a) (p+x.length) (n+cn x) d o→Rd ts .joined p n d o
 implied:sgn (tk ts (p+x.length)) Sx.sAnd=false→sgn (tk ts (p+x.length)) Sx.sOr=false→sgn (tk ts (p+x.length)) Sx.sImp=false→Rd ts .implied p n d (.ok a (p+x.length) (n+cn x))
section
variable {ts:List Tn} {lv:Int} {a:T} {x:List P} {p n d:Nat}
theorem Way.of1 (h:sgn (tk ts (p+x.length)) Sx.sAnd=false→sgn (tk ts (p+x.length)) Sx.sOr=false→sgn (tk ts (p+x.length)) Sx.sImp=false→Rd ts .implied p n d (.ok a (p+x.length) (n+cn x))) (hl:lv=1):Way ts lv a x p n d :=
 ⟨fun e=>by omega,fun e=>by omega,fun e=>by omega,h⟩
theorem Way.of2 (h:∀ o,sgn (tk ts (p+x.length)) Sx.sAnd=false→Rd ts (.ors a) (p+x.length) (n+cn x) d o→Rd ts .joined p n d o) (hl:lv=2):Way ts lv a x p n d :=
 ⟨fun e=>by omega,fun e=>by omega,fun _=>h,fun h1 h2 h3=>Rd.implied (h _ h1 (Rd.orsEnd h2)) h3⟩
theorem Way.of3 (h:∀ o,Rd ts (.ands a) (p+x.length) (n+cn x) d o→Rd ts .both p n d o) (hl:lv=3):Way ts lv a x p n d:=by
 have hj:∀ o,sgn (tk ts (p+x.length)) Sx.sAnd=false→Rd ts (.ors a) (p+x.length) (n+cn x) d o→Rd ts .joined p n d o:=fun o h1 h2=>Rd.joined (h _ (Rd.andsEnd h1)) h2
 exact ⟨fun e=>by omega,fun _=>h,fun _=>hj,fun h1 h2 h3=>Rd.implied (hj _ h1 (Rd.orsEnd h2)) h3⟩
theorem Way.of4 (h:Rd ts .single p n d (.ok a (p+x.length) (n+cn x))):Way ts lv a x p n d:=by
 have hb:∀ o,Rd ts (.ands a) (p+x.length) (n+cn x) d o→Rd ts .both p n d o:=fun o h2=>Rd.both h h2
 have hj:∀ o,sgn (tk ts (p+x.length)) Sx.sAnd=false→Rd ts (.ors a) (p+x.length) (n+cn x) d o→Rd ts .joined p n d o:=fun o h1 h2=>Rd.joined (hb _ (Rd.andsEnd h1)) h2
 exact ⟨fun _=>h,fun _=>hb,fun _=>hj,fun h1 h2 h3=>Rd.implied (hj _ h1 (Rd.orsEnd h2)) h3⟩
end
end Bk
end Go.Proofs.YtkmmlimekachbaaGreatDoor
/-
  Plain mathematics: the text of a formula is cut into its tokens. No condition.
-/
namespace Go.Proofs.YtkmmlimekachbaaGreatDoor
open Fm (Nd)
namespace Bk
inductive Toks:List UInt8→List Tk.Tok→Prop
 | nil (l:List UInt8) (h:Tk.skip l=l.length):Toks l []
 | cons (l x r:List UInt8) (t:Tk.Tok) (ts:List Tk.Tok) (h1:l.drop (Tk.skip l)=x ++ r) (h2:Tk.cut (x ++ r)=(t,x.length,0)) (h3:t.1≠0) (h4:x≠[]) (h:Toks r ts):Toks l (t :: ts)
theorem Toks.blank {l:List UInt8} {ts:List Tk.Tok} (h:Toks l ts):Toks (32 :: l) ts:=by
 have hg:Tk.skip (32 :: l)=1+Tk.skip l:=Tk.skip_blank 32 l (by decide)
 cases h with
 | nil _ h=>exact Toks.nil _ (by rw [hg,h,List.length_cons];omega)
 | cons _ x r t ts h1 h2 h3 h4 h=>exact Toks.cons _ x r t ts (by rw [hg,Nat.add_comm,List.drop_succ_cons,h1]) h2 h3 h4 h
theorem cut_c (c:UInt8) (r:List UInt8):Tk.cut (c :: r)=if Tk.isBeg c=true then Tk.cutName (c :: r) else if Tk.isDig c=true then Tk.cutNum (c :: r) else if c.toNat<128 then Tk.cutSign (c :: r) else Tk.cutRune (c :: r):=rfl
def Soft (r:List UInt8):Prop:=∀ d r',r=d :: r'→Tk.isIn d=false
theorem Toks.sign {c:UInt8} {x r:List UInt8} {ts:List Tk.Tok} (h:Toks r ts) (hb:Tk.isBlank c=false) (h35:c.toNat≠35) (hc:Tk.cut (c :: (x ++ r))=((3,c :: x,0),x.length+1,0)):Toks (c :: (x ++ r)) ((3,c :: x,0) :: ts):=by
 refine Toks.cons _ (c :: x) r _ ts ?_ ?_ (by simp) (by simp) h
 ·rw [Tk.skip_else c _ hb h35];rfl
 ·rw [List.cons_append,hc];rfl
theorem beg_plain {c:UInt8} (h:Tk.isBeg c=true):Tk.isBlank c=false∧c.toNat≠35:=by
 unfold Tk.isBeg at h
 unfold Tk.isBlank
 simp only [Bool.or_eq_true,Bool.and_eq_true,decide_eq_true_eq] at h
 refine ⟨?_,by omega⟩
 simp only [Bool.or_eq_false_iff,decide_eq_false_iff_not]
 omega
theorem run_soft:∀ (x r:List UInt8),x.all Tk.isIn=true→Soft r→Tk.run Tk.isIn (x ++ r)=x.length
 | [],r,_,hr=>by
  cases r with
  | nil=>rfl
  | cons d r=>rw [List.nil_append,Tk.run_cons,hr d r rfl];rfl
 | c :: x,r,h,hr=>by
  simp only [List.all_cons,Bool.and_eq_true] at h
  rw [List.cons_append,Tk.run_cons,if_pos h.1,run_soft x r h.2 hr]
  rfl
theorem Toks.name {c:UInt8} {x r:List UInt8} {ts:List Tk.Tok} (h:Toks r ts) (hr:Soft r) (hb:Tk.isBeg c=true) (hx:x.all Tk.isIn=true) (hl:x.length+1≤31):Toks ((c :: x) ++ r) ((1,c :: x,0) :: ts):=by
 obtain ⟨h1,h2⟩:=beg_plain hb
 have hrun:Tk.run Tk.isIn ((c :: x) ++ r)=x.length+1:=run_soft (c :: x) r (by simp only [List.all_cons,Bool.and_eq_true];exact ⟨by unfold Tk.isIn;rw [hb];rfl,hx⟩) hr
 refine Toks.cons _ (c :: x) r _ ts ?_ ?_ (by simp) (by simp) h
 ·rw [List.cons_append,Tk.skip_else c _ h1 h2];rfl
 ·rw [List.cons_append,cut_c,if_pos hb]
  unfold Tk.cutName
  rw [← List.cons_append,hrun,if_neg (by omega)]
  simp
theorem toks_scan (s:List UInt8) {l:List UInt8} {ts:List Tk.Tok} (h:Toks l ts):∀ (f o:Nat) (a:List (Tk.Tok × Nat)),s.drop o=l→o≤s.length→s.length<o+f→∃ res:List (Tk.Tok × Nat),Tk.scanF f s o a=(a ++ res,0,0)∧res.map (·.1)=ts ++ [(0,[],0)]:=by
 induction h with
 | nil l h =>
  intro f o a hl ho hf
  obtain ⟨f,rfl⟩:∃ f',f=f'+1:=⟨f - 1,by omega⟩
  have hll:l.length=s.length - o:=by rw [← hl,List.length_drop]
  rw [Tk.scanF_step,hl,h]
  have e:s.drop (o+l.length)=[]:=List.drop_eq_nil_of_le (by omega)
  rw [e,if_neg (by decide),if_pos (show (Tk.cut []).1.1=0 from rfl)]
  exact ⟨_,rfl,rfl⟩
 | cons l x r t ts h1 h2 h3 h4 h ih =>
  intro f o a hl ho hf
  obtain ⟨f,rfl⟩:∃ f',f=f'+1:=⟨f - 1,by omega⟩
  have e:s.drop (o+Tk.skip l)=x ++ r:=by rw [← List.drop_drop,hl,h1]
  have hx:0<x.length:=List.length_pos_iff.2 h4
  have hlen:=congrArg List.length e
  rw [List.length_drop,List.length_append] at hlen
  rw [Tk.scanF_step,hl,e,h2,if_neg (by simp),if_neg h3]
  obtain ⟨res,hr1,hr2⟩:=ih f (o+Tk.skip l+x.length) (a ++ [(t,o+Tk.skip l)]) (by rw [← List.drop_drop,e,List.drop_left]) (by omega) (by omega)
  refine ⟨(t,o+Tk.skip l) :: res,?_,by rw [List.map_cons,hr2];rfl⟩
  show Tk.scanF f s (o+Tk.skip l+x.length) (a ++ [(t,o+Tk.skip l)])=_
  rw [hr1]
  simp
theorem toks_all (s:List UInt8) (ts:List Tk.Tok) (h:Toks s ts):(Tk.scan s).2.1=0∧(Tk.scan s).1.map (·.1)=ts ++ [(0,[],0)]:=by
 obtain ⟨res,h1,h2⟩:=toks_scan s h (s.length+1) 0 [] List.drop_zero (by omega) (by omega)
 have e:Tk.scan s=([] ++ res,0,0):=h1
 rw [e]
 exact ⟨rfl,h2⟩
def tkOf (x:P):Tk.Tok:=(x.1,x.2,0)
theorem soft_nil:Soft []:=fun d r' h=>by cases h
theorem soft_cons {d:UInt8} (r:List UInt8) (h:Tk.isIn d=false):Soft (d :: r):=fun d' r' e=>by cases e;exact h
theorem cut_not (r:List UInt8):Tk.cut (126 :: ([] ++ r))=((3,[126],0),1,0):=by rw [cut_c];simp [Tk.isBeg,Tk.isDig,Tk.cutSign,Tk.signs,Tk.signIn]
theorem cut_open (r:List UInt8):Tk.cut (40 :: ([] ++ r))=((3,[40],0),1,0):=by rw [cut_c];simp [Tk.isBeg,Tk.isDig,Tk.cutSign,Tk.signs,Tk.signIn]
theorem cut_shut (r:List UInt8):Tk.cut (41 :: ([] ++ r))=((3,[41],0),1,0):=by rw [cut_c];simp [Tk.isBeg,Tk.isDig,Tk.cutSign,Tk.signs,Tk.signIn]
theorem cut_and (r:List UInt8):Tk.cut (38 :: ([] ++ r))=((3,[38],0),1,0):=by rw [cut_c];simp [Tk.isBeg,Tk.isDig,Tk.cutSign,Tk.signs,Tk.signIn]
theorem cut_or (r:List UInt8):Tk.cut (124 :: ([] ++ 32 :: r))=((3,[124],0),1,0):=by rw [cut_c];simp [Tk.isBeg,Tk.isDig,Tk.cutSign,Tk.signs,Tk.signIn]
theorem cut_imp (r:List UInt8):Tk.cut (45 :: ([62] ++ r))=((3,[45,62],0),2,0):=by rw [cut_c];simp [Tk.isBeg,Tk.isDig,Tk.cutSign,Tk.signs,Tk.signIn]
end Bk
end Go.Proofs.YtkmmlimekachbaaGreatDoor
/-
  Plain mathematics: the tokens of a formula's text are read as its tree. No condition.
-/
namespace Go.Proofs.YtkmmlimekachbaaGreatDoor
open Fm (Nd)
open Sx (T Tn Lv Rd tk sgn counts up)
namespace Bk
section
variable {ts:List Tn} {lv:Int} {a:T} {x:List P} {D:Nat}
theorem pe_way (H:∀ p n d,Mt ts p x→n+cn x≤512→d+D≤1024→Way ts lv a x p n d) (bare:Bool) (p n d:Nat) (hM:Mt ts p (pe x bare)) (hn:n+cn (pe x bare)≤512) (hd:d+de D bare≤1024):Way ts (if bare then lv else 4) a (pe x bare) p n d:=by
 cases bare with
 | true=>exact H p n d hM hn hd
 | false =>
  have hM':Mt ts p ((3,Sx.sOpen) :: (x ++ [(3,Sx.sShut)])):=hM
  have ho:=hM'.head
  have hx:=hM'.tail.left
  have hs:=hM'.tail.right.head
  have hcn:cn (pe x false)=cn x:=by
   show cn ((3,Sx.sOpen) :: (x ++ [(3,Sx.sShut)]))=_
   rw [cn_cons,cn_app]
   simp [cn,ct]
  have hln:(pe x false).length=x.length+2:=by
   show ((3,Sx.sOpen) :: (x ++ [(3,Sx.sShut)])).length=_
   simp
  rw [hcn] at hn
  have hd':d+(D+1)≤1024:=hd
  have w:=H (p+1) n (d+1) hx (by omega) (by omega)
  refine Way.of4 ?_
  rw [hcn,hln,show p+(x.length+2)=p+1+x.length+1 by omega]
  refine Rd.paren (by rw [sgn_at ho];decide) (by rw [sgn_at ho];decide) (by omega) (by rw [counts_at ho];decide) (by omega) (Rd.formula (w.implied ?_ ?_ ?_) ?_) (by rw [sgn_at hs];decide) (by rw [counts_at hs];decide) (by omega)
  all_goals (rw [sgn_at hs];decide)
end
variable {ts:List Tn} {t:List Nd}
theorem lvl_le (i:Int):Pr.lvl t i≤4∧1≤Pr.lvl t i:=by unfold Pr.lvl;repeat' split;all_goals omega
theorem named_word {s:ByteArray} (h:Fm.word s.data.toList=true):Sx.named s=some (.atom s):=by
 unfold Sx.named
 have hw:=h
 unfold Fm.word at hw
 rw [if_neg,if_neg,if_pos h]
 ·intro e;rw [e] at hw;revert hw;decide
 ·intro e;rw [e] at hw;revert hw;decide
theorem bytes_ext {a b:ByteArray} (h:a.data.toList=b.data.toList):a=b:=by
 obtain ⟨a⟩:=a
 obtain ⟨b⟩:=b
 congr
 exact Array.ext' h
theorem word_at (hT:Fm.Ok t) {i:Int} (hi:Fm.has t i=true) (h1:(nodeOf t i).k=1):Fm.word (nodeOf t i).s.data.toList=true:=by
 have h:=Rp.check_there hT hi
 unfold Fm.check at h
 rw [if_pos (Rp.shaped_at hT hi),if_pos h1] at h
 split at h
 ·assumption
 ·omega
theorem name_way {lv:Int} {a:T} {x:List UInt8} {p n d:Nat} (hM:Mt ts p [(1,x)]) (hn:n+cn [(1,x)]≤512) (hm:∀ s:ByteArray,s.data.toList=x→Sx.named s=some a):Way ts lv a [(1,x)] p n d:=by
 have ho:=hM.head
 have hc:cn [((1:Int),x)]=1:=by simp [cn,ct]
 have hu:up ts p n=n+1:=by rw [up_at ho];simp [ct]
 refine Way.of4 ?_
 rw [hc]
 have:=Rd.name (d:=d) (ts:=ts) (i:=p) (n:=n) (by rw [sgn_at ho];simp) (by rw [sgn_at ho];simp) ho.1 (hm _ ho.2) (by rw [hu];omega)
 rw [hu] at this
 exact this
theorem way_tree (hT:Fm.Ok t):∀ (f:Nat) (i:Int),Fm.has t i=true→i.toNat<f→∀ p n d,Mt ts p (pk t f i)→n+cn (pk t f i)≤512→d+dp t f i≤1024→Way ts (Pr.lvl t i) (Rp.tree t f i) (pk t f i) p n d
 | 0,_,_,h=>absurd h (by omega)
 | f+1,i,hi,hf=>by
  intro p n d
  have h0:=Fm.has_iff.1 hi
  unfold Rp.tree pk dp
  by_cases h1:(nodeOf t i).k=1
  ·rw [if_pos h1,if_pos h1,if_pos h1]
   intro hM hn _
   refine name_way hM hn fun s hs => ?_
   rw [bytes_ext hs]
   exact named_word (word_at hT hi h1)
  rw [if_neg h1,if_neg h1,if_neg h1]
  by_cases h2:(nodeOf t i).k=2
  ·rw [if_pos h2,if_pos h2,if_pos h2]
   intro hM hn _
   exact name_way hM hn fun s hs=>by unfold Sx.named;rw [if_pos hs]
  rw [if_neg h2,if_neg h2,if_neg h2]
  obtain ⟨hj,hs⟩:=Rp.kind_at hT hi h1 h2
  obtain ⟨⟨hl1,hl2⟩,hr1,hr2⟩:=parts_has hT hi hj
  have hl0:=Fm.has_iff.1 hl1
  have hr0:=Fm.has_iff.1 hr1
  have ihl:=way_tree hT f (nodeOf t i).l hl1 (by omega)
  have ihr:=way_tree hT f (nodeOf t i).r hr1 (by omega)
  by_cases ht:Pr.isTrue t (nodeOf t i)=true
  ·rw [if_pos ht,if_pos ht,if_pos ht]
   intro hM hn _
   exact name_way hM hn fun s hs=>by unfold Sx.named;rw [hs,if_neg (by decide),if_pos rfl]
  rw [if_neg ht,if_neg ht,if_neg ht]
  by_cases hnot:Pr.isNot t (nodeOf t i)=true
  ·rw [if_pos hnot,if_pos hnot,if_pos hnot]
   intro hM hn hd
   have ho:=hM.head
   rw [cn_cons] at hn
   have hc1:(if ct (3,Sx.sNot)=true then 1 else 0)=1:=rfl
   rw [hc1] at hn
   have hu:up ts p n=n+1:=up_at ho
   have w:=pe_way ihl _ (p+1) (n+1) d hM.tail (by omega) hd
   refine Way.of4 ?_
   have hw:=w.single (by
    by_cases h:4≤Pr.lvl t (nodeOf t i).l
    ·rw [decide_eq_true h];have:=lvl_le (t:=t) (nodeOf t i).l;simp;omega
    ·rw [decide_eq_false h];rfl)
   rw [List.length_cons,cn_cons,hc1,show p+((pe (pk t f (nodeOf t i).l) (decide (4≤Pr.lvl t (nodeOf t i).l))).length+1)=p+1+(pe (pk t f (nodeOf t i).l) (decide (4≤Pr.lvl t (nodeOf t i).l))).length by omega,← Nat.add_assoc]
   refine Rd.neg (by rw [sgn_at ho];decide) (by rw [hu];omega) ?_
   rw [hu]
   exact hw
  rw [if_neg hnot,if_neg hnot,if_neg hnot]
  have hnot':Pr.isNot t (nodeOf t i)=false:=by simpa using hnot
  have hlv:∀ (m:Int) (j:Int),m≤4→m≤(if decide (m≤Pr.lvl t j)=true then Pr.lvl t j else 4):=fun m j hm=>by
   by_cases h:m≤Pr.lvl t j
   ·rw [decide_eq_true h];simpa using h
   ·rw [decide_eq_false h];simpa using hm
  have key:∀ (xl xr:List P) (g:List UInt8),ct (3,g)=true→(xl ++ ((3,g) :: xr)).length=xl.length+1+xr.length∧cn (xl ++ ((3,g) :: xr))=cn xl+1+cn xr:=fun xl xr g hg=>by
   rw [cn_app,cn_cons,hg,List.length_append,List.length_cons]
   exact ⟨by omega,by simp only [if_true];omega⟩
  by_cases h5:(nodeOf t i).k=5
  ·rw [if_pos h5,if_pos h5]
   intro hM hn hd
   have hlvl:Pr.lvl t i=1:=by unfold Pr.lvl;rw [if_neg (by omega),if_neg (by omega),if_pos ⟨h5,hnot'⟩]
   obtain ⟨k1,k2⟩:=key (pe (pk t f (nodeOf t i).l) (decide (2≤Pr.lvl t (nodeOf t i).l))) (pk t f (nodeOf t i).r) Sx.sImp (by decide)
   have hML:=hM.left
   have hq:=hM.right.head
   have hMR:=hM.right.tail
   have h2l:=hlv 2 (nodeOf t i).l (by omega)
   have wl:=pe_way ihl (decide (2≤Pr.lvl t (nodeOf t i).l)) p n d hML (by omega) (by omega)
   have wr:=ihr (p+(pe (pk t f (nodeOf t i).l) (decide (2≤Pr.lvl t (nodeOf t i).l))).length+1) (n+cn (pe (pk t f (nodeOf t i).l) (decide (2≤Pr.lvl t (nodeOf t i).l)))+1) d hMR (by omega) (by omega)
   refine Way.of1 (fun e1 e2 e3 => ?_) hlvl
   rw [k1] at e1 e2 e3
   rw [k1,k2,h5]
   simp only [← Nat.add_assoc] at e1 e2 e3 ⊢
   generalize (pe (pk t f (nodeOf t i).l) (decide (2≤Pr.lvl t (nodeOf t i).l)))=xl at *
   have hu:up ts (p+xl.length) (n+cn xl)=n+cn xl+1:=up_at hq
   refine Rd.imp (wl.joined h2l _ (by rw [sgn_at hq];decide) (Rd.orsEnd (by rw [sgn_at hq];decide))) (by rw [sgn_at hq];decide) (by rw [hu];omega) ?_
   rw [hu]
   exact wr.implied e1 e2 e3
  ·rw [if_neg h5,if_neg h5]
   intro hM hn hd
   have h34:(nodeOf t i).k=3∨(nodeOf t i).k=4:=by unfold Fm.jn at hj;simp at hj;omega
   have hg:ct (3,wsg (nodeOf t i).k)=true:=by rcases h34 with e | e <;> rw [e] <;> decide
   obtain ⟨k1,k2⟩:=key (pe (pk t f (nodeOf t i).l) (decide (Pr.lvl t i≤Pr.lvl t (nodeOf t i).l))) (pe (pk t f (nodeOf t i).r) (decide (Pr.lvl t i+1≤Pr.lvl t (nodeOf t i).r))) (wsg (nodeOf t i).k) hg
   have hML:=hM.left
   have hq:=hM.right.head
   have hMR:=hM.right.tail
   have hll:=lvl_le (t:=t) i
   have hlv3:(nodeOf t i).k=3→Pr.lvl t i=3:=fun e=>by unfold Pr.lvl;rw [if_pos e]
   have hlv4:(nodeOf t i).k=4→Pr.lvl t i=2:=fun e=>by unfold Pr.lvl;rw [if_neg (by omega),if_pos e]
   have hlL:=hlv (Pr.lvl t i) (nodeOf t i).l (by omega)
   have hlR:=hlv (Pr.lvl t i+1) (nodeOf t i).r (by rcases h34 with e | e;rw [hlv3 e];omega;rw [hlv4 e];omega)
   have hR4:(if decide (Pr.lvl t i+1≤Pr.lvl t (nodeOf t i).r)=true then Pr.lvl t (nodeOf t i).r else 4)≤4:=by split;exact (lvl_le _).1;omega
   have wl:=pe_way ihl (decide (Pr.lvl t i≤Pr.lvl t (nodeOf t i).l)) p n d hML (by omega) (by omega)
   have wr:=pe_way ihr (decide (Pr.lvl t i+1≤Pr.lvl t (nodeOf t i).r)) (p+(pe (pk t f (nodeOf t i).l) (decide (Pr.lvl t i≤Pr.lvl t (nodeOf t i).l))).length+1) (n+cn (pe (pk t f (nodeOf t i).l) (decide (Pr.lvl t i≤Pr.lvl t (nodeOf t i).l)))+1) d hMR (by omega) (by omega)
   generalize (pe (pk t f (nodeOf t i).l) (decide (Pr.lvl t i≤Pr.lvl t (nodeOf t i).l)))=xl at *
   generalize (pe (pk t f (nodeOf t i).r) (decide (Pr.lvl t i+1≤Pr.lvl t (nodeOf t i).r)))=xr at *
   have hu:up ts (p+xl.length) (n+cn xl)=n+cn xl+1:=by rw [up_at hq,hg];rfl
   rcases h34 with e | e
   ·refine Way.of3 (fun o ho => ?_) (hlv3 e)
    rw [k1,k2,e] at ho
    simp only [← Nat.add_assoc] at ho
    rw [e] at hq
    rw [hlv3 e] at hlL hlR hR4 wl wr
    refine wl.both hlL o (Rd.ands (by rw [sgn_at hq];decide) (by rw [hu];omega) ?_ ho)
    rw [hu]
    exact wr.single (by omega)
   ·refine Way.of2 (fun o h1 ho => ?_) (hlv4 e)
    rw [k1] at h1
    rw [k1,k2,e] at ho
    simp only [← Nat.add_assoc] at h1 ho
    rw [e] at hq
    rw [hlv4 e] at hlL hlR hR4 wl wr
    refine wl.joined hlL o (by rw [sgn_at hq];decide) (Rd.ors (by rw [sgn_at hq];decide) (by rw [hu];omega) ?_ ho)
    rw [hu]
    exact wr.both hlR _ (Rd.andsEnd h1)
end Bk
end Go.Proofs.YtkmmlimekachbaaGreatDoor
/-
  Plain mathematics: the text of a formula is cut into its tokens. No condition.
-/
namespace Go.Proofs.YtkmmlimekachbaaGreatDoor
open Fm (Nd)
namespace Bk
section
variable {t:List Nd}
theorem cn_pe (x:List P) (b:Bool):cn (pe x b)=cn x:=by
 cases b with
 | true=>rfl
 | false =>
  show cn ((3,Sx.sOpen) :: (x ++ [(3,Sx.sShut)]))=_
  rw [cn_cons,cn_app]
  simp [cn,ct]
theorem de_le (n:Nat) (b:Bool):de n b≤n+1:=by cases b <;> simp [de]
theorem dp_le:∀ (f:Nat) (i:Int),dp t f i≤cn (pk t f i)
 | 0,_=>Nat.zero_le _
 | f+1,i=>by
  unfold dp pk
  by_cases h1:(nodeOf t i).k=1
  ·rw [if_pos h1];exact Nat.zero_le _
  rw [if_neg h1,if_neg h1]
  by_cases h2:(nodeOf t i).k=2
  ·rw [if_pos h2];exact Nat.zero_le _
  rw [if_neg h2,if_neg h2]
  by_cases ht:Pr.isTrue t (nodeOf t i)=true
  ·rw [if_pos ht];exact Nat.zero_le _
  rw [if_neg ht,if_neg ht]
  have hl:=dp_le f (nodeOf t i).l
  have hr:=dp_le f (nodeOf t i).r
  by_cases hn:Pr.isNot t (nodeOf t i)=true
  ·rw [if_pos hn,if_pos hn,cn_cons,cn_pe]
   have:=de_le (dp t f (nodeOf t i).l) (decide (4≤Pr.lvl t (nodeOf t i).l))
   have hc:(if ct (3,Sx.sNot)=true then 1 else 0)=1:=rfl
   omega
  rw [if_neg hn,if_neg hn]
  by_cases h5:(nodeOf t i).k=5
  ·rw [if_pos h5,if_pos h5,cn_app,cn_cons,cn_pe]
   have:=de_le (dp t f (nodeOf t i).l) (decide (2≤Pr.lvl t (nodeOf t i).l))
   have hc:(if ct (3,Sx.sImp)=true then 1 else 0)=1:=rfl
   omega
  ·rw [if_neg h5,if_neg h5,cn_app,cn_cons,cn_pe,cn_pe]
   have:=de_le (dp t f (nodeOf t i).l) (decide (Pr.lvl t i≤Pr.lvl t (nodeOf t i).l))
   have:=de_le (dp t f (nodeOf t i).r) (decide (Pr.lvl t i+1≤Pr.lvl t (nodeOf t i).r))
   have hc:(if ct (3,wsg (nodeOf t i).k)=true then 1 else 0)=1:=by
    unfold wsg
    split
    ·rfl
    ·split <;> rfl
   omega
theorem pe_cut {j:Int} {x:List P} (H:∀ r ts,Soft r→Toks r ts→Toks (Pr.text t j ++ r) (x.map tkOf ++ ts)) (m:Int) {r:List UInt8} {ts:List Tk.Tok} (hr:Soft r) (h:Toks r ts):Toks (Pr.textOf t (Pr.enc t j m) ++ r) ((pe x (decide (m≤Pr.lvl t j))).map tkOf ++ ts):=by
 unfold Pr.enc
 by_cases hm:m≤Pr.lvl t j
 ·rw [if_pos hm,decide_eq_true hm,Pr.textOf_one];exact H r ts hr h
 ·rw [if_neg hm,decide_eq_false hm]
  have e:Pr.textOf t [.tx ⟨#[40]⟩,.pt j,.tx ⟨#[41]⟩] ++ r=40 :: ([] ++ (Pr.text t j ++ (41 :: ([] ++ r)))):=by simp [Pr.textOf,Pr.pc]
  have e2:(pe x false).map tkOf ++ ts=(3,[40],0) :: (x.map tkOf ++ ((3,[41],0) :: ts)):=by
   show ((3,Sx.sOpen) :: (x ++ [(3,Sx.sShut)])).map tkOf ++ ts=_
   simp [tkOf]
  rw [e,e2]
  have h2:=Toks.sign h (c:=41) (x:=[]) (by decide) (by decide) (cut_shut r)
  exact Toks.sign (H _ _ (soft_cons _ (by decide)) h2) (c:=40) (x:=[]) (by decide) (by decide) (cut_open _)
theorem beg_of {c:UInt8} (h:Fm.isL c=true):Tk.isBeg c=true:=by
 unfold Fm.isL at h
 unfold Tk.isBeg
 simp only [Bool.or_eq_true,Bool.and_eq_true,decide_eq_true_eq,UInt8.le_iff_toNat_le] at h ⊢
 have e1:(97:UInt8).toNat=97:=rfl
 have e2:(122:UInt8).toNat=122:=rfl
 have e3:(65:UInt8).toNat=65:=rfl
 have e4:(90:UInt8).toNat=90:=rfl
 omega
theorem in_of {c:UInt8} (h:Fm.inN c=true):Tk.isIn c=true:=by
 unfold Fm.inN at h
 unfold Tk.isIn Tk.isDig
 simp only [Bool.or_eq_true,Bool.and_eq_true,decide_eq_true_eq,UInt8.le_iff_toNat_le,beq_iff_eq] at h ⊢
 rcases h with ((h | h) | h) | h
 ·exact Or.inl (Or.inl (beg_of h))
 ·have e1:(48:UInt8).toNat=48:=rfl
  have e2:(57:UInt8).toNat=57:=rfl
  exact Or.inl (Or.inr (by omega))
 ·subst h;exact Or.inl (Or.inl (by decide))
 ·subst h;exact Or.inr rfl
theorem word_cut {s:List UInt8} (hw:Fm.word s=true) {r:List UInt8} {ts:List Tk.Tok} (hr:Soft r) (h:Toks r ts):Toks (s ++ r) ((1,s,0) :: ts):=by
 cases s with
 | nil=>exact absurd hw (by decide)
 | cons c x =>
  unfold Fm.word at hw
  simp only [Bool.and_eq_true,decide_eq_true_eq,List.headD_cons,List.tail_cons,List.length_cons] at hw
  obtain ⟨⟨⟨⟨_,h2⟩,h3⟩,h4⟩,_⟩:=hw
  exact Toks.name h hr (beg_of h3) (List.all_eq_true.2 fun y hy=>in_of (List.all_eq_true.1 h4 y hy)) h2
theorem cut_text (hT:Fm.Ok t):∀ (f:Nat) (i:Int),Fm.has t i=true→i.toNat<f→∀ r ts,Soft r→Toks r ts→Toks (Pr.text t i ++ r) ((pk t f i).map tkOf ++ ts)
 | 0,_,_,h=>absurd h (by omega)
 | f+1,i,hi,hf=>by
  intro r ts hr h
  have h0:=Fm.has_iff.1 hi
  rw [Pr.text_eq hT hi]
  unfold Pr.pcs pk
  by_cases h1:(nodeOf t i).k=1
  ·rw [if_pos h1,if_pos h1,Pr.textOf_one]
   exact word_cut (word_at hT hi h1) hr h
  rw [if_neg h1,if_neg h1]
  by_cases h2:(nodeOf t i).k=2
  ·rw [if_pos h2,if_pos h2,Pr.textOf_one]
   exact Toks.name (c:=102) (x:=[97,108,115,101]) h hr (by decide) (by decide) (by decide)
  rw [if_neg h2,if_neg h2]
  obtain ⟨hj,hs⟩:=Rp.kind_at hT hi h1 h2
  obtain ⟨⟨hl1,hl2⟩,hr1,hr2⟩:=parts_has hT hi hj
  have hl0:=Fm.has_iff.1 hl1
  have hr0:=Fm.has_iff.1 hr1
  have ihl:=cut_text hT f (nodeOf t i).l hl1 (by omega)
  have ihr:=cut_text hT f (nodeOf t i).r hr1 (by omega)
  by_cases ht:Pr.isTrue t (nodeOf t i)=true
  ·rw [if_pos ht,if_pos ht,Pr.textOf_one]
   exact Toks.name (c:=116) (x:=[114,117,101]) h hr (by decide) (by decide) (by decide)
  rw [if_neg ht,if_neg ht]
  by_cases hnot:Pr.isNot t (nodeOf t i)=true
  ·rw [if_pos hnot,if_pos hnot]
   have e:Pr.textOf t (.tx ⟨#[126]⟩ :: Pr.enc t (nodeOf t i).l 4) ++ r=126 :: ([] ++ (Pr.textOf t (Pr.enc t (nodeOf t i).l 4) ++ r)):=by simp [Pr.textOf,Pr.pc]
   rw [e]
   exact Toks.sign (pe_cut ihl 4 hr h) (c:=126) (x:=[]) (by decide) (by decide) (cut_not _)
  rw [if_neg hnot,if_neg hnot]
  have hnot':Pr.isNot t (nodeOf t i)=false:=by simpa using hnot
  have key:∀ (a b:List Pr.Pc) (g:ByteArray),Pr.textOf t (a ++ (.tx g :: b)) ++ r=Pr.textOf t a ++ (g.data.toList ++ (Pr.textOf t b ++ r)):=fun a b g=>by simp [Pr.textOf,Pr.pc]
  have key2:∀ (a b:List P) (g:List UInt8),(a ++ ((3,g) :: b)).map tkOf ++ ts=a.map tkOf ++ ((3,g,0) :: (b.map tkOf ++ ts)):=fun a b g=>by simp [tkOf]
  by_cases h5:(nodeOf t i).k=5
  ·rw [if_pos h5,if_pos h5,key,key2,h5]
   have hlvl:Pr.lvl t i=1:=by unfold Pr.lvl;rw [if_neg (by omega),if_neg (by omega),if_pos ⟨h5,hnot'⟩]
   rw [hlvl]
   have hR:=pe_cut ihr 1 hr h
   rw [decide_eq_true (lvl_le (t:=t) (nodeOf t i).r).2] at hR
   have hS:=Toks.sign hR.blank (c:=45) (x:=[62]) (by decide) (by decide) (cut_imp _)
   exact pe_cut ihl 2 (soft_cons _ (by decide)) hS.blank
  ·rw [if_neg h5,if_neg h5,key,key2]
   have hR:=pe_cut ihr (Pr.lvl t i+1) hr h
   have h34:(nodeOf t i).k=3∨(nodeOf t i).k=4:=by unfold Fm.jn at hj;simp at hj;omega
   rcases h34 with h3 | h4
   ·have hS:=Toks.sign hR.blank (c:=38) (x:=[]) (by decide) (by decide) (cut_and _)
    rw [h3]
    exact pe_cut ihl (Pr.lvl t i) (soft_cons _ (by decide)) hS.blank
   ·have hS:=Toks.sign hR.blank (c:=124) (x:=[]) (by decide) (by decide) (cut_or _)
    rw [h4]
    exact pe_cut ihl (Pr.lvl t i) (soft_cons _ (by decide)) hS.blank
end
end Bk
end Go.Proofs.YtkmmlimekachbaaGreatDoor
/-
  Plain mathematics: the text of a formula is read as its number, and nothing is put. No condition.
-/
namespace Go.Proofs.YtkmmlimekachbaaGreatDoor
open Fm (Nd)
open Sx (Tn)
namespace Bk
def pj (x:Tn):P:=(x.k,x.s.data.toList)
theorem cnt_pj (ts:List Tn):cnt ts=cn (ts.map pj):=by
 unfold cnt cn
 rw [List.filter_map,List.length_map]
 rfl
theorem toks_pj (s:List UInt8) (x:List P) (h:Toks s (x.map tkOf)):(toks s).map pj=x ++ [(0,[])]:=by
 obtain ⟨h1,h2⟩:=toks_all s _ h
 unfold toks
 rw [if_pos h1,List.map_map]
 have e:(Tk.scan s).1.map (pj ∘ tn s)=((Tk.scan s).1.map (·.1)).map fun y=>(y.1,y.2.1):=by
  rw [List.map_map]
  refine List.map_congr_left fun y _ => ?_
  simp [pj,tn]
 rw [e,h2,List.map_append,List.map_map]
 have e2:x.map ((fun y:Tk.Tok=>(y.1,y.2.1)) ∘ tkOf)=x:=(List.map_congr_left fun y _=>rfl).trans (List.map_id x)
 rw [e2]
 rfl
theorem tk_pj {ts:List Tn} {j:Nat} (h:j<(ts.map pj).length):pj (Sx.tk ts j)=(ts.map pj)[j]:=by
 have h':j<ts.length:=by simpa using h
 rw [List.getElem_map]
 unfold Sx.tk
 rw [List.getD_eq_getElem?_getD,List.getElem?_eq_getElem h']
 rfl
theorem mt_of {ts:List Tn} {x y:List P} (h:ts.map pj=x ++ y):Mt ts 0 x:=fun j hj=>by
 have hj':j<(ts.map pj).length:=by rw [h,List.length_append];omega
 have:=tk_pj hj'
 rw [List.getElem_of_eq h,List.getElem_append_left hj] at this
 rw [Nat.zero_add,← this]
 exact ⟨rfl,rfl⟩
theorem whole_of {ts:List Tn} {a:Sx.T} {k m:Nat} (h:Sx.Rd ts .formula 0 0 0 (.ok a k m)):Sx.rd ts (8 * ts.length+5) .formula 0 0 0=some (.ok a k m):=by
 obtain ⟨f,hf⟩:=h
 obtain ⟨o,ho,_⟩:=Sx.rd_total ts (8 * ts.length+5) .formula 0 0 0 (Nat.zero_le _) (by simp [Sx.cost])
 have h1:=Sx.rd_le ts (Nat.le_max_left f (8 * ts.length+5)) hf
 have h2:=Sx.rd_le ts (Nat.le_max_right f (8 * ts.length+5)) ho
 rw [h1] at h2
 rw [ho,h2]
end Bk
end Go.Proofs.YtkmmlimekachbaaGreatDoor

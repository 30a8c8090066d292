/-
  The document's call Right of a sequent: for every table of the document's that calls made and every sequent. No other condition.
-/
import Derived.Test.YtkmmlimekachbaaGreatDoorQG3
import Derived.Test.YtkmmlimekachbaaGreatDoorRG1
import Derived.Test.YtkmmlimekachbaaGreatDoorSPQ
import Derived.Test.YtkmmlimekachbaaGreatDoorBKG
import Derived.Test.YtkmmlimekachbaaGreatDoorQParse
namespace Go.Proofs.YtkmmlimekachbaaGreatDoor
open Go.RowKit Go.Shelf Go.Maps
open Fm (Nd)
open Bt.Bs (Ok wd)
def rightQ (t:List Nd) (r:List Nat) (g:Int):Bool:=((Bt.Bs.nums r).map fun n:Nat=>(n:Int)).all (Fm.has t) && Fm.has t g
theorem chk_right (t:List Nd) (r:List Nat) (g:Int):chkQ t r g=if rightQ t r g then 0 else 31:=rfl
set_option maxRecDepth 100000 in
set_option maxHeartbeats 2000000 in
theorem rright_any (w:World) {c:Nat} {u:Value} {t:List Nd} (hT:Tr w c u t) {r:List Nat} (hr:Ok r) (g:Int) :
 Calls Tryz.prog 16 #[.pointer (some ⟨c,0,none⟩),.agg (cellsQ r g)] w fun e w'=>e=.returned (.bool (rightQ t r g))∧Below w.heap.size w w':=by
 have hl:=hr.1
 have hnl:(Bt.Bs.nums r).length≤1024:=Bt.Bs.nums_len_le r
 have KL:=show Hid (∀ w',Calls Tryz.prog 32 #[.agg (Bt.cellsB r)] w' fun e w''=>∃ p cc,e=.returned (.slice p (Bt.Bs.nums r).length cc)∧(∀ k (hk:k<(Bt.Bs.nums r).length),∃ b o,p=some ⟨b,o,none⟩∧w''.cell? ⟨b,o+k,none⟩=some (.int .i64 (((Bt.Bs.nums r)[k]:Nat):Int)))∧Below w'.heap.size w' w'') from fun w'=>(Bt.rlist_any w' hr).mono fun e w'' ⟨v,he,ho,hb⟩=>by
  obtain ⟨p,cc,hv,_,hcell⟩:=ho.isL hnl
  rw [List.length_map] at hv
  refine ⟨p,cc,by rw [he,hv],fun k hk => ?_,hb⟩
  obtain ⟨b,o,hp,hc⟩:=hcell k (by simpa using hk)
  exact ⟨b,o,hp,by simpa using hc⟩
 have KH:=show Hid (∀ w' x,Below w.heap.size w w'→Calls Tryz.prog 31 #[.pointer (some ⟨c,0,none⟩),.int .i64 x] w' fun e w''=>e=.returned (.bool (Fm.has t x))∧w''=w') from fun w' x hb=>rhas_any w' (hT.later hb) x
 have HA:=show Hid (∀ k (hk:k<(Bt.Bs.nums r).length),Fm.has t (((Bt.Bs.nums r)[k]:Nat):Int)=false→rightQ t r g=false) from fun k hk h=>by
  unfold rightQ
  rw [Bool.and_eq_false_iff]
  left
  rw [List.all_eq_false]
  exact ⟨_,List.mem_map.2 ⟨_,List.getElem_mem hk,rfl⟩,by rw [h];simp⟩
 have HE:=show Hid ((∀ k (hk:k<(Bt.Bs.nums r).length),Fm.has t (((Bt.Bs.nums r)[k]:Nat):Int)=true)→rightQ t r g=Fm.has t g) from fun h=>by
  unfold rightQ
  have h2:((Bt.Bs.nums r).map fun n:Nat=>(n:Int)).all (Fm.has t)=true:=by
   rw [List.all_eq_true]
   intro x hx
   obtain ⟨n,hn,rfl⟩:=List.mem_map.1 hx
   obtain ⟨k,hk,rfl⟩:=List.mem_iff_getElem.1 hn
   exact h k hk
  rw [h2,Bool.true_and]
 have HC:=show Hid (CK w (w.alloc (.cells (cellsQ r g) 27)) r g) from ⟨seq_new w r g,below_alloc w _⟩
 clear hT hr
 generalize rightQ t r g=rq at *
 generalize Bt.Bs.nums r=l at *
 go_enter Tryz.func16,Tryz.ntmps16
 go_wp2_with (refine wpList_ldQ _ _ rfl _ rfl HC.out.seq hl rfl ?_)
 refine (KL.out _).mono ?_
 rintro e w1 ⟨p,cc,rfl,hcell,hb1⟩
 have H1:=show Hid (CK w w1 r g) from HC.out.later hb1
 have HL:=show Hid (∀ k (hk:k<l.length),∃ b o,p=some ⟨b,o,none⟩∧w1.cell? ⟨b,o+k,none⟩=some (.int .i64 ((l[k]:Nat):Int))) from hcell
 clear hcell hb1 HC KL
 go_wp2_with fail
 go_loopw [6] (fun iv wr=>∃ k:Nat,k≤l.length∧iv=.int .i64 (k:Int)∧wr=w1∧Hid (∀ j (hj:j<l.length),j<k→Fm.has t ((l[j]:Nat):Int)=true)) (fun iv _=>l.length - (intOf iv).toNat)
 case atStart=>exact ⟨0,by omega,rfl,rfl,fun j _ h=>by omega⟩
 case round =>
  obtain ⟨k,hk,rfl,hwr,HI⟩:=hrel
  subst wr
  by_cases hlt:k<l.length
  ·have hki:(k:Int)<(l.length:Int):=by omega
   obtain ⟨b,o,rfl,hc⟩:=HL.out k hlt
   have KX:=show Hid _ from KH.out w1 ((l[k]:Nat):Int) H1.out.bel
   cases hx:Fm.has t ((l[k]:Nat):Int)
   ·have hq:=HA.out k hlt hx
    rw [hx] at KX
    generalize ((l[k]:Nat):Int)=x at *
    subst hq
    clear HA HE HI KH HL
    go_wp2_with fail
    refine Calls.mono KX.out ?_
    rintro e w' ⟨rfl,hw'⟩
    subst w'
    clear KX
    go_wp2_with fail
    go_ret
    exact ⟨rfl,H1.out.bel⟩
   ·have HI2:=show Hid (∀ j (hj:j<l.length),j<k+1→Fm.has t ((l[j]:Nat):Int)=true) from fun j hj h=>by
     by_cases e:j=k
     ·subst e;exact hx
     ·exact HI.out j hj (by omega)
    rw [hx] at KX
    generalize ((l[k]:Nat):Int)=x at *
    clear HA HE HI KH HL
    go_wp2_with fail
    refine Calls.mono KX.out ?_
    rintro e w' ⟨rfl,hw'⟩
    subst w'
    clear KX
    go_wp2_with fail
    go_roundw
    case rel=>exact ⟨k+1,by omega,by go_num,by simp,HI2⟩
    case measure=>first | (simp [intOf];done) | (simp [intOf];omega)
  ·have hki:¬ (k:Int)<(l.length:Int):=by omega
   have hq:=HE.out (fun j hj=>HI.out j hj (by omega))
   subst hq
   have c0:=H1.out.seq.goal hl
   have KX:=show Hid _ from KH.out w1 g H1.out.bel
   clear HA HE HI KH HL
   go_wp2_with fail
   refine Calls.mono KX.out ?_
   rintro e w' ⟨rfl,hw'⟩
   subst w'
   clear KX
   go_wp2_with fail
   go_ret
   exact ⟨rfl,H1.out.bel⟩
end Go.Proofs.YtkmmlimekachbaaGreatDoor
/-
  The text of a sequent: what the program writes step by step, told at once. No condition.
-/
namespace Go.Proofs.YtkmmlimekachbaaGreatDoor
open Go.RowKit Go.Maps
open Fm (Nd)
open Bt.Bs (Ok)
def jnS (t:List Nd) (s:List UInt8) (i:Nat):List UInt8:=(if 0<s.length then s ++ [44,32] else s) ++ Pr.text t (i:Int)
def jnF (t:List Nd) (l:List Nat):List UInt8:=l.foldl (jnS t) []
theorem jnF_snoc (t:List Nd) (l:List Nat) (i:Nat):jnF t (l ++ [i])=jnS t (jnF t l) i:=by simp [jnF]
theorem jnS_len (t:List Nd) (s:List UInt8) (i:Nat):s.length≤(jnS t s i).length∧(Pr.text t (i:Int)).length≤(jnS t s i).length:=by
 unfold jnS
 split <;> simp <;> omega
theorem jn_grow (t:List Nd):∀ (l:List Nat) (s:List UInt8),s.length≤(l.foldl (jnS t) s).length
 | [],_=>Nat.le_refl _
 | i :: l,s=>Nat.le_trans (jnS_len t s i).1 (jn_grow t l (jnS t s i))
theorem wrQ_ok {t:List Nd} {i:Int} (hi:Fm.has t i=true) (l:List UInt8):wrQ t l i=if l.length+(Pr.text t i).length≤65536 then (l ++ Pr.text t i,0) else (l,11):=by
 unfold wrQ printR
 rw [hi,if_pos rfl]
 by_cases h:(Pr.text t i).length≤65536
 ·rw [if_pos h]
  simp only [if_true]
  by_cases h2:l.length+(Pr.text t i).length≤65536
  ·rw [if_neg (by omega),if_pos h2]
  ·rw [if_pos (by omega),if_neg h2]
 ·rw [if_neg h]
  simp only
  rw [if_neg (by omega),if_neg (by omega)]
theorem prS_stay (t:List Nd):∀ (l:List Nat) (s:List UInt8 × Int),s.2≠0→l.foldl (prS t) s=s
 | [],_,_=>rfl
 | i :: l,s,h=>by
  have:prS t s i=s:=by unfold prS;rw [if_neg h]
  rw [List.foldl_cons,this]
  exact prS_stay t l s h
theorem prF_is (t:List Nd):∀ (l:List Nat) (s:List UInt8),(∀ i ∈ l,Fm.has t (i:Int)=true)→s.length≤65536 →
 ((l.foldl (jnS t) s).length≤65536→l.foldl (prS t) (s,0)=(l.foldl (jnS t) s,0))∧(65536<(l.foldl (jnS t) s).length→(l.foldl (prS t) (s,0)).2=11)
 | [],s,_,hs=>⟨fun _=>rfl,fun h=>by simp at h;omega⟩
 | i :: l,s,hh,hs=>by
  have hi:=hh i (by simp)
  have e:prS t (s,0) i=if (jnS t s i).length≤65536 then (jnS t s i,0) else ((if 0<s.length then s ++ [44,32] else s),11):=by
   unfold prS
   rw [if_pos rfl,wrQ_ok hi]
   unfold jnS
   rw [List.length_append]
  rw [List.foldl_cons,List.foldl_cons,e]
  by_cases h:(jnS t s i).length≤65536
  ·rw [if_pos h]
   exact prF_is t l (jnS t s i) (fun j hj=>hh j (by simp [hj])) h
  ·rw [if_neg h]
   have hg:=jn_grow t l (jnS t s i)
   refine ⟨fun h2=>by omega,fun _ => ?_⟩
   rw [prS_stay t l _ (by simp)]
theorem print_once {t:List Nd} {r:List Nat} {g:Int} (h:rightQ t r g=true):printQ t r g=if (ahQ (jnF t (Bt.Bs.nums r)) ++ Pr.text t g).length≤65536 then (ahQ (jnF t (Bt.Bs.nums r)) ++ Pr.text t g,0) else ([],11):=by
 have h2:=h
 unfold rightQ at h2
 rw [Bool.and_eq_true] at h2
 obtain ⟨ha,hg⟩:=h2
 rw [List.all_eq_true] at ha
 have hh:∀ i ∈ Bt.Bs.nums r,Fm.has t (i:Int)=true:=fun i hi=>ha _ (List.mem_map.2 ⟨i,hi,rfl⟩)
 have hp:=prF_is t (Bt.Bs.nums r) [] hh (by simp)
 have hah:∀ l:List UInt8,l.length≤(ahQ l).length:=fun l=>by unfold ahQ;split <;> simp <;> omega
 have h1:=hah (jnF t (Bt.Bs.nums r))
 unfold printQ
 rw [chk_right,h,if_pos rfl,if_pos rfl]
 by_cases hc:(jnF t (Bt.Bs.nums r)).length≤65536
 ·have e:prF t (Bt.Bs.nums r)=(jnF t (Bt.Bs.nums r),0):=hp.1 hc
  rw [e]
  simp only [if_true]
  rw [wrQ_ok hg,List.length_append]
  by_cases h3:(ahQ (jnF t (Bt.Bs.nums r))).length+(Pr.text t g).length≤65536
  ·simp only [if_pos h3];rfl
  ·simp only [if_neg h3];rfl
 ·have e:(prF t (Bt.Bs.nums r)).2=11:=hp.2 (by unfold jnF at hc;omega)
  rw [if_neg (by rw [e];omega),e,if_neg]
  rw [List.length_append]
  omega
theorem print_not {t:List Nd} {r:List Nat} {g:Int} (h:rightQ t r g=false):printQ t r g=([],31):=by
 unfold printQ
 rw [chk_right,h]
 rfl
end Go.Proofs.YtkmmlimekachbaaGreatDoor
/-
  Plain mathematics: what is printed of a sequent is read as the same sequent, and nothing is put into the table. No condition.
-/
namespace Go.Proofs.YtkmmlimekachbaaGreatDoor
open Fm (Nd)
open Bt.Bs (Ok)
open Sx (Tn T)
namespace Bk
def rows:T→Nat
 | .atom _=>1
 | .bot=>1
 | .top=>2
 | .neg a=>rows a+2
 | .bin _ a b=>rows a+rows b+1
 | .iff _ _=>10000
theorem rows_pos:∀ a:T,1≤rows a
 | .atom _=>Nat.le_refl _
 | .bot=>Nat.le_refl _
 | .top=>by simp [rows]
 | .neg a=>by simp only [rows];omega
 | .bin _ a b=>by simp only [rows];omega
 | .iff _ _=>by simp [rows]
def Rm (n:Nat) (t:List Nd) (r:Int × Int × List Nd):Prop:=r.2.2.length≤t.length+n∧(r.2.1=30→1024<t.length+n)
theorem rm_put (t:List Nd) (n:Nd):Rm 1 t (Fm.put t n):=by
 have hc:=Fm.check_vals t n
 unfold Rm Fm.put
 by_cases h:Fm.check t n=0
 ·rw [if_pos h]
  by_cases hm:n ∈ t
  ·rw [if_pos hm];exact ⟨by simp,fun h=>by cases h⟩
  ·rw [if_neg hm]
   by_cases hl:1024≤t.length
   ·rw [if_pos hl];exact ⟨by simp,fun _=>by omega⟩
   ·rw [if_neg hl];exact ⟨by simp,fun h=>by cases h⟩
 ·rw [if_neg h]
  refine ⟨by simp,fun h2 => ?_⟩
  simp only at h2
  omega
theorem Rm.mono {n m:Nat} {t:List Nd} {r:Int × Int × List Nd} (h:Rm n t r) (hm:n≤m):Rm m t r:=⟨Nat.le_trans h.1 (by omega),fun e=>by have:=h.2 e;omega⟩
theorem rm_thn {n m:Nat} {t:List Nd} {r:Int × Int × List Nd} {k:Int→List Nd→Int × Int × List Nd} (h:Rm n t r) (hk:∀ x t1,Rm m t1 (k x t1)):Rm (n+m) t (Sx.thn r k):=by
 unfold Sx.thn
 split
 ·have h2:=hk r.1 r.2.2
  have h1:=h.1
  exact ⟨by have:=h2.1;omega,fun e=>by have:=h2.2 e;omega⟩
 ·exact h.mono (by omega)
theorem rm_thn2 {n m:Nat} {t:List Nd} {r:Int × Int × List Nd} {k:Int→List Nd→Int × Int × List Nd} (h:Rm n t r) (hk:r.2.1=0→Rm m r.2.2 (k r.1 r.2.2)):Rm (n+m) t (Sx.thn r k):=by
 unfold Sx.thn
 split
 ·rename_i h0
  have h2:=hk h0
  have h1:=h.1
  exact ⟨by have:=h2.1;omega,fun e=>by have:=h2.2 e;omega⟩
 ·exact h.mono (by omega)
theorem rm_notp (t:List Nd) (a:Int):Rm 2 t (Fm.notp t a):=by
 unfold Fm.notp
 split
 ·split
  ·have h1:=rm_put t Fm.bot
   have h2:=rm_put (Fm.put t Fm.bot).2.2 ⟨5,⟨#[]⟩,a,(Fm.put t Fm.bot).1⟩
   have:=h1.1
   exact ⟨by have:=h2.1;omega,fun e=>by have:=h2.2 e;omega⟩
  ·exact (rm_put t Fm.bot).mono (by omega)
 ·exact ⟨by simp,fun e=>by cases e⟩
theorem mem_put {t:List Nd} {n:Nd} (h:(Fm.put t n).2.1=0):n ∈ (Fm.put t n).2.2:=by
 unfold Fm.put at h ⊢
 by_cases hc:Fm.check t n=0
 ·rw [if_pos hc] at h ⊢
  by_cases hm:n ∈ t
  ·rw [if_pos hm];exact hm
  ·rw [if_neg hm] at h ⊢
   by_cases hl:1024≤t.length
   ·rw [if_pos hl] at h;cases h
   ·rw [if_neg hl];simp
 ·rw [if_neg hc] at h
  exact absurd h hc
theorem rm_notp_bot (t:List Nd) (a:Int) (hb:Fm.bot ∈ t):Rm 1 t (Fm.notp t a):=by
 have hc:Fm.check t Fm.bot=0:=rfl
 have e:Fm.put t Fm.bot=((t.idxOf Fm.bot:Int),0,t):=by unfold Fm.put;rw [if_pos hc,if_pos hb]
 unfold Fm.notp
 rw [e]
 split
 ·simp only [if_true]
  exact rm_put t _
 ·exact ⟨by simp,fun e=>by cases e⟩
theorem rm_pt:∀ (a:T) (t:List Nd),Fm.Ok t→Sx.Wf a→Rm (rows a) t (Sx.pt a t)
 | .atom s,t,_,_=>rm_put t _
 | .bot,t,_,_=>rm_put t _
 | .top,t,_,_=>rm_thn2 (n:=1) (m:=1) (rm_put t Fm.bot) fun h0=>rm_notp_bot _ _ (mem_put h0)
 | .neg a,t,h,hw=>rm_thn (rm_pt a t h hw) fun x t1=>rm_notp t1 x
 | .bin k a b,t,h,hw=>by
  show Rm (rows a+rows b+1) t (Sx.thn (Sx.pt a t) fun x t=>Sx.thn (Sx.pt b t) fun y t=>Fm.put t ⟨k,⟨#[]⟩,x,y⟩)
  rw [Nat.add_assoc]
  exact rm_thn2 (rm_pt a t h hw.2.1) fun _=>rm_thn (rm_pt b _ (Sx.pt_res a h hw.2.1).ok hw.2.2) fun y t1=>rm_put t1 _
 | .iff a b,t,h,hw=>by
  have hr:=(Sx.pt_res (.iff a b) h hw).ok.len
  exact ⟨by simp only [rows];omega,fun _=>by simp only [rows];omega⟩
section
variable {t:List Nd}
theorem rows_le (hT:Fm.Ok t):∀ (f:Nat) (i:Int),Fm.has t i=true→i.toNat<f→rows (Rp.tree t f i)≤2 * cn (pk t f i)
 | 0,_,_,h=>absurd h (by omega)
 | f+1,i,hi,hf=>by
  have h0:=Fm.has_iff.1 hi
  unfold Rp.tree pk
  by_cases h1:(nodeOf t i).k=1
  ·rw [if_pos h1,if_pos h1];simp [rows,cn,ct]
  rw [if_neg h1,if_neg h1]
  by_cases h2:(nodeOf t i).k=2
  ·rw [if_pos h2,if_pos h2];simp [rows,cn,ct]
  rw [if_neg h2,if_neg h2]
  obtain ⟨hj,hs⟩:=Rp.kind_at hT hi h1 h2
  obtain ⟨⟨hl1,hl2⟩,hr1,hr2⟩:=parts_has hT hi hj
  have hl0:=Fm.has_iff.1 hl1
  have hr0:=Fm.has_iff.1 hr1
  have ihl:=rows_le hT f (nodeOf t i).l hl1 (by omega)
  have ihr:=rows_le hT f (nodeOf t i).r hr1 (by omega)
  by_cases ht:Pr.isTrue t (nodeOf t i)=true
  ·rw [if_pos ht,if_pos ht];simp [rows,cn,ct]
  rw [if_neg ht,if_neg ht]
  by_cases hn:Pr.isNot t (nodeOf t i)=true
  ·rw [if_pos hn,if_pos hn,cn_cons,cn_pe]
   have hc:(if ct (3,Sx.sNot)=true then 1 else 0)=1:=rfl
   simp only [rows]
   omega
  rw [if_neg hn,if_neg hn]
  by_cases h5:(nodeOf t i).k=5
  ·rw [if_pos h5,cn_app,cn_cons,cn_pe]
   have hc:(if ct (3,Sx.sImp)=true then 1 else 0)=1:=rfl
   simp only [rows]
   omega
  ·rw [if_neg h5,cn_app,cn_cons,cn_pe,cn_pe]
   have hc:(if ct (3,wsg (nodeOf t i).k)=true then 1 else 0)=1:=by
    unfold wsg
    split
    ·rfl
    ·split <;> rfl
   simp only [rows]
   omega
def fk (t:List Nd) (i:Nat):List P:=pk t (i+1) (i:Int)
def Stop (y:List P):Prop:=∀ z y',y=z :: y'→z.1=3→z.2≠Sx.sAnd∧z.2≠Sx.sOr∧z.2≠Sx.sImp∧z.2≠Sx.sIff
theorem stop_sgn {ts:List Tn} {x y:List P} (hP:ts.map pj=x ++ y) (hy:Stop y) {g:List UInt8} (hg:g=Sx.sAnd∨g=Sx.sOr∨g=Sx.sImp∨g=Sx.sIff):Sx.sgn (Sx.tk ts (0+x.length)) g=false:=by
 rw [Nat.zero_add]
 cases y with
 | nil =>
  have hl:ts.length=x.length:=by have:=congrArg List.length hP;simpa using this
  have:Sx.tk ts x.length=Sx.tz:=by unfold Sx.tk;rw [List.getD_eq_getElem?_getD,List.getElem?_eq_none (by omega)];rfl
  rw [this]
  rfl
 | cons z y' =>
  have hx:x.length<(ts.map pj).length:=by rw [hP];simp
  have hend:=tk_pj hx
  rw [List.getElem_of_eq hP,List.getElem_append_right (Nat.le_refl _)] at hend
  simp only [Nat.sub_self,List.getElem_cons_zero] at hend
  have h1:(Sx.tk ts x.length).k=z.1:=congrArg Prod.fst hend
  have h2:(Sx.tk ts x.length).s.data.toList=z.2:=congrArg Prod.snd hend
  unfold Sx.sgn
  rw [h1,h2]
  by_cases h3:z.1=3
  ·have h4:=hy z y' rfl h3
   have:(z.2 == g)=false:=by
    rw [beq_eq_false_iff_ne]
    rcases hg with rfl | rfl | rfl | rfl
    ·exact h4.1
    ·exact h4.2.1
    ·exact h4.2.2.1
    ·exact h4.2.2.2
   rw [this,Bool.and_false]
  ·have:(z.1 == 3)=false:=by rw [beq_eq_false_iff_ne];exact h3
   rw [this,Bool.false_and]
theorem whole_form (hT:Fm.Ok t) {i:Nat} (hi:Fm.has t (i:Int)=true) {ts:List Tn} {y:List P} (hP:ts.map pj=fk t i ++ y) (hc:cn (fk t i)≤512) (hy:Stop y) :
 whole false ts t=(((i:Int),((fk t i).length:Int),0,Sx.tz),t)∧Sq.fstR ts=.inr (fk t i).length:=by
 have h0:=Fm.has_iff.1 hi
 have hdp:=dp_le (t:=t) (i+1) (i:Int)
 have hrw:=rows_le hT (i+1) (i:Int) hi (by omega)
 have hW:=way_tree (ts:=ts) hT (i+1) (i:Int) hi (by omega) 0 0 0 (mt_of hP) (by show 0+cn (fk t i)≤512;omega) (by unfold fk at hc;omega)
 have hpt:=Rp.pt_tree hT (i+1) (i:Int) hi (by omega)
 have hx:pk t (i+1) (i:Int)=fk t i:=rfl
 rw [hx] at hW hrw
 generalize Rp.tree t (i+1) (i:Int)=a at *
 generalize fk t i=x at *
 have hs:=fun {g:List UInt8} hg=>stop_sgn (g:=g) hP hy hg
 have hR:=whole_of (Sx.Rd.formula (hW.implied (hs (Or.inl rfl)) (hs (Or.inr (Or.inl rfl))) (hs (Or.inr (Or.inr (Or.inl rfl))))) (hs (Or.inr (Or.inr (Or.inr rfl)))))
 have hwf:Sx.Wf a:=Sx.rd_wf ts _ _ _ _ _ _ (by trivial) hR
 have hroom:(Sx.pt a []).2.1=0:=by
  have h1:=Sx.pt_res a Fm.ok_nil hwf
  have h2:=rm_pt a [] Fm.ok_nil hwf
  rcases h1.out with h | h
  ·exact h.1
  ·have:=h2.2 h.1
   simp at this
   omega
 have hfin:fin false ts=.ok a (0+x.length) (0+cn x):=by
  unfold fin
  rw [hR]
  rfl
 constructor
 ·unfold whole
  rw [hfin]
  show (if (Sx.pt a t).2.1=0 then (((Sx.pt a t).1,((0+x.length:Nat):Int),0,Sx.tz),(Sx.pt a t).2.2) else ((0,0,(Sx.pt a t).2.1,Sx.tz),t))=_
  rw [hpt,Nat.zero_add]
  rfl
 ·unfold Sq.fstR whole
  rw [hfin]
  have e:wholeO [] (.ok a (0+x.length) (0+cn x))=(((Sx.pt a []).1,((0+x.length:Nat):Int),0,Sx.tz),(Sx.pt a []).2.2):=by
   show (if (Sx.pt a []).2.1=0 then _ else _)=_
   rw [if_pos hroom]
  rw [e,Nat.zero_add]
  simp
end
section
variable {t:List Nd}
theorem pk_head (hT:Fm.Ok t):∀ (f:Nat) (i:Int),Fm.has t i=true→i.toNat<f→∃ z y,pk t f i=z :: y∧¬ (z.1=3∧z.2=Sq.sTurn)
 | 0,_,_,h=>absurd h (by omega)
 | f+1,i,hi,hf=>by
  have h0:=Fm.has_iff.1 hi
  have hpe:∀ (x:List P) (b:Bool) (w:List P),(∃ z y,x=z :: y∧¬ (z.1=3∧z.2=Sq.sTurn))→∃ z y,pe x b ++ w=z :: y∧¬ (z.1=3∧z.2=Sq.sTurn):=fun x b w ⟨z,y,hx,hz⟩=>by
   cases b
   ·exact ⟨(3,Sx.sOpen),x ++ [(3,Sx.sShut)] ++ w,by simp [pe],by decide⟩
   ·exact ⟨z,y ++ w,by simp [pe,hx],hz⟩
  unfold pk
  by_cases h1:(nodeOf t i).k=1
  ·rw [if_pos h1];exact ⟨_,_,rfl,fun h=>absurd h.1 (by simp)⟩
  rw [if_neg h1]
  by_cases h2:(nodeOf t i).k=2
  ·rw [if_pos h2];exact ⟨_,_,rfl,fun h=>absurd h.1 (by simp)⟩
  rw [if_neg h2]
  obtain ⟨hj,hs⟩:=Rp.kind_at hT hi h1 h2
  obtain ⟨⟨hl1,hl2⟩,hr1,hr2⟩:=parts_has hT hi hj
  have hl0:=Fm.has_iff.1 hl1
  have ihl:=pk_head hT f (nodeOf t i).l hl1 (by omega)
  by_cases ht:Pr.isTrue t (nodeOf t i)=true
  ·rw [if_pos ht];exact ⟨_,_,rfl,fun h=>absurd h.1 (by simp)⟩
  rw [if_neg ht]
  by_cases hn:Pr.isNot t (nodeOf t i)=true
  ·rw [if_pos hn];exact ⟨_,_,rfl,by decide⟩
  rw [if_neg hn]
  by_cases h5:(nodeOf t i).k=5
  ·rw [if_pos h5];exact hpe _ _ _ ihl
  ·rw [if_neg h5];exact hpe _ _ _ ihl
theorem toks_nil {ts:List Tk.Tok} (h:Toks [] ts):ts=[]:=by
 cases h with
 | nil _ _=>rfl
 | cons _ x r t ts h1 h2 h3 h4 h =>
  rw [List.drop_nil] at h1
  have:=congrArg List.length h1
  simp at this
  exact absurd (List.length_eq_zero_iff.1 (by omega)) h4
theorem cut_fk (hT:Fm.Ok t) {i:Nat} (hi:Fm.has t (i:Int)=true) {r:List UInt8} {ts:List Tk.Tok} (hr:Soft r) (h:Toks r ts):Toks (Pr.text t (i:Int) ++ r) ((fk t i).map tkOf ++ ts):=cut_text hT (i+1) (i:Int) hi (by omega) r ts hr h
theorem text_ne (hT:Fm.Ok t) {i:Nat} (hi:Fm.has t (i:Int)=true):0<(Pr.text t (i:Int)).length:=by
 have h:=cut_fk hT hi soft_nil (Toks.nil [] rfl)
 obtain ⟨z,y,hz,_⟩:=pk_head hT (i+1) (i:Int) hi (by omega)
 cases hx:Pr.text t (i:Int) with
 | cons a l=>simp
 | nil =>
  rw [hx] at h
  have h2:=toks_nil h
  unfold fk at h2
  rw [hz] at h2
  simp at h2
theorem cut_comma (r:List UInt8):Tk.cut (44 :: ([] ++ r))=((3,[44],0),1,0):=by rw [cut_c];simp [Tk.isBeg,Tk.isDig,Tk.cutSign,Tk.signs,Tk.signIn]
theorem cut_turn (r:List UInt8):Tk.cut (124 :: ([45] ++ r))=((3,[124,45],0),2,0):=by rw [cut_c];simp [Tk.isBeg,Tk.isDig,Tk.cutSign,Tk.signs,Tk.signIn]
def restS (t:List Nd) (g:Nat):List Nat→List UInt8
 | []=>32 :: 124 :: ([45] ++ 32 :: Pr.text t (g:Int))
 | i :: l=>44 :: ([] ++ 32 :: (Pr.text t (i:Int) ++ restS t g l))
def XL (t:List Nd) (g:Nat):List Nat→List P
 | []=>(3,Sq.sTurn) :: fk t g
 | i :: l=>(3,Sq.sComma) :: (fk t i ++ XL t g l)
theorem soft_rest (g:Nat):∀ l,Soft (restS t g l)
 | []=>soft_cons _ (by decide)
 | _ :: _=>soft_cons _ (by decide)
theorem toks_goal (hT:Fm.Ok t) {g:Nat} (hg:Fm.has t (g:Int)=true):Toks (124 :: ([45] ++ 32 :: Pr.text t (g:Int))) (((3,Sq.sTurn) :: fk t g).map tkOf):=by
 have h:=cut_fk hT hg soft_nil (Toks.nil [] rfl)
 rw [List.append_nil,List.append_nil] at h
 exact Toks.sign (c:=124) (x:=[45]) h.blank (by decide) (by decide) (cut_turn _)
theorem toks_rest (hT:Fm.Ok t) {g:Nat} (hg:Fm.has t (g:Int)=true):∀ l:List Nat,(∀ i ∈ l,Fm.has t (i:Int)=true)→Toks (restS t g l) ((XL t g l).map tkOf)
 | [],_=>(toks_goal hT hg).blank
 | i :: l,h=>by
  have ih:=toks_rest hT hg l (fun j hj=>h j (by simp [hj]))
  have h2:=cut_fk hT (h i (by simp)) (soft_rest g l) ih
  have h3:=Toks.sign (c:=44) (x:=[]) h2.blank (by decide) (by decide) (cut_comma _)
  have e:(XL t g (i :: l)).map tkOf=(3,[44],0) :: ((fk t i).map tkOf ++ (XL t g l).map tkOf):=by
   show ((3,Sq.sComma) :: (fk t i ++ XL t g l)).map tkOf=_
   rw [List.map_cons,List.map_append]
   rfl
  rw [e]
  exact h3
theorem fold_jn (t:List Nd):∀ (l:List Nat) (s:List UInt8),0<s.length→l.foldl (jnS t) s=s ++ l.flatMap fun i:Nat=>44 :: 32 :: Pr.text t (i:Int)
 | [],s,_=>by simp
 | i :: l,s,hs=>by
  have e:jnS t s i=s ++ (44 :: 32 :: Pr.text t (i:Int)):=by unfold jnS;rw [if_pos hs];simp
  rw [List.foldl_cons,e,fold_jn t l _ (by rw [List.length_append];omega),List.flatMap_cons,List.append_assoc]
theorem rest_flat (t:List Nd) (g:Nat):∀ l:List Nat,restS t g l=(l.flatMap fun i:Nat=>44 :: 32 :: Pr.text t (i:Int)) ++ (32 :: 124 :: 45 :: 32 :: Pr.text t (g:Int))
 | []=>rfl
 | i :: l=>by
  show 44 :: 32 :: (Pr.text t (i:Int) ++ restS t g l)=_
  rw [rest_flat t g l,List.flatMap_cons]
  simp
theorem text_cons (hT:Fm.Ok t) {a:Nat} (ha:Fm.has t (a:Int)=true) (l:List Nat) (g:Nat):ahQ (jnF t (a :: l)) ++ Pr.text t (g:Int)=Pr.text t (a:Int) ++ restS t g l:=by
 have hp:=text_ne hT ha
 have e:jnF t (a :: l)=Pr.text t (a:Int) ++ l.flatMap fun i:Nat=>44 :: 32 :: Pr.text t (i:Int):=by
  unfold jnF
  rw [List.foldl_cons]
  have e2:jnS t [] a=Pr.text t (a:Int):=rfl
  rw [e2,fold_jn t l _ hp]
 rw [rest_flat]
 unfold ahQ
 rw [e,if_pos (by rw [List.length_append];omega)]
 simp
theorem stop_XL (g:Nat) (w:List P):∀ l,Stop (XL t g l ++ w)
 | []=>fun z y' e _=>by
  simp only [XL,List.cons_append,List.cons.injEq] at e
  rw [← e.1]
  decide
 | i :: l=>fun z y' e _=>by
  simp only [XL,List.cons_append,List.cons.injEq] at e
  rw [← e.1]
  decide
theorem stop_end:Stop [((0:Int),([]:List UInt8))]:=fun z y' e h=>by
 simp only [List.cons.injEq] at e
 rw [← e.1] at h
 cases h
theorem tk_head {ts:List Tn} {z:P} {y:List P} (h:ts.map pj=z :: y):(Sx.tk ts 0).k=z.1∧(Sx.tk ts 0).s.data.toList=z.2:=by
 have hx:0<(ts.map pj).length:=by rw [h];simp
 have h2:=tk_pj hx
 rw [List.getElem_of_eq h] at h2
 exact ⟨congrArg Prod.fst h2,congrArg Prod.snd h2⟩
theorem sgn_head {ts:List Tn} {z:P} {y:List P} (h:ts.map pj=z :: y) (g:List UInt8):Sx.sgn (Sx.tk ts 0) g=(z.1 == 3 && z.2 == g):=by
 obtain ⟨h1,h2⟩:=tk_head h
 unfold Sx.sgn
 rw [h1,h2]
theorem map_drop_of {ts:List Tn} {x y:List P} (h:ts.map pj=x ++ y):(ts.take x.length).map pj=x∧(ts.drop x.length).map pj=y:=by
 rw [List.map_take,List.map_drop,h]
 simp
theorem cn_le_of {x y:List P} {n:Nat} (h:cn (x ++ y)≤n):cn x≤n∧cn y≤n:=by rw [cn_app] at h;omega
theorem lefts_form (hT:Fm.Ok t) {g:Nat}:∀ (l:List Nat) (a:Nat) (f:Nat) (acc:List (List Tn)) (ts:List Tn),Fm.has t (a:Int)=true→(∀ i ∈ l,Fm.has t (i:Int)=true)→l.length<f→ts.map pj=fk t a ++ (XL t g l ++ [(0,[])])→cn (fk t a ++ (XL t g l ++ [(0,[])]))≤512 →
 ∃ ps r,Sq.lefts f acc ts=some (.inr (acc ++ ps,r))∧ps.map (List.map pj)=(a :: l).map (fk t)∧r.map pj=XL t g [] ++ [(0,[])]
 | l,a,0,_,_,_,_,h,_,_=>absurd h (by omega)
 | [],a,f+1,acc,ts,ha,_,_,hP,hc=>by
  obtain ⟨_,h2⟩:=whole_form hT ha hP (cn_le_of hc).1 (stop_XL g _ [])
  obtain ⟨h3,h4⟩:=map_drop_of hP
  refine ⟨[ts.take (fk t a).length],ts.drop (fk t a).length,?_,by simp [h3],h4⟩
  unfold Sq.lefts
  rw [h2]
  simp only
  rw [sgn_head h4,if_neg (by decide)]
 | i :: l,a,f+1,acc,ts,ha,hl,hf,hP,hc=>by
  obtain ⟨_,h2⟩:=whole_form hT ha hP (cn_le_of hc).1 (stop_XL g _ (i :: l))
  obtain ⟨h3,h4⟩:=map_drop_of hP
  have h4':(ts.drop (fk t a).length).map pj=(3,Sq.sComma) :: (fk t i ++ (XL t g l ++ [(0,[])])):=by rw [h4];simp [XL]
  have h5:(ts.drop ((fk t a).length+1)).map pj=fk t i ++ (XL t g l ++ [(0,[])]):=by
   rw [← List.drop_drop,List.map_drop,h4']
   rfl
  have hc2:cn (fk t i ++ (XL t g l ++ [(0,[])]))≤512:=by
   have h6:=(cn_le_of hc).2
   have e:XL t g (i :: l) ++ [((0:Int),([]:List UInt8))]=[(3,Sq.sComma)] ++ (fk t i ++ (XL t g l ++ [(0,[])])):=by simp [XL]
   rw [e] at h6
   exact (cn_le_of h6).2
  obtain ⟨ps,r,h6,h7,h8⟩:=lefts_form hT l i f (acc ++ [ts.take (fk t a).length]) (ts.drop ((fk t a).length+1)) (hl i (by simp)) (fun j hj=>hl j (by simp [hj])) (by simp at hf;omega) h5 hc2
  refine ⟨ts.take (fk t a).length :: ps,r,?_,by simp [h3,h7],h8⟩
  unfold Sq.lefts
  rw [h2]
  simp only
  rw [sgn_head h4',if_pos (by decide),h6]
  simp
theorem goal_form (hT:Fm.Ok t) {g:Nat} (hg:Fm.has t (g:Int)=true) (ps:List (List Tn)) {r:List Tn} (hr:r.map pj=fk t g ++ [(0,[])]) (hc:cn (fk t g)≤512):∃ l,Sq.goalR ps r=.inr (ps,l)∧l.map pj=fk t g:=by
 obtain ⟨_,h2⟩:=whole_form hT hg hr hc stop_end
 obtain ⟨h3,h4⟩:=map_drop_of hr
 refine ⟨r.take (fk t g).length,?_,h3⟩
 unfold Sq.goalR
 rw [h2]
 simp only
 rw [if_pos (tk_head h4).1]
theorem putL_form (hT:Fm.Ok t):∀ (l:List Nat) (ps:List (List Tn)) (r:List Nat),(∀ i ∈ l,Fm.has t (i:Int)=true∧cn (fk t i)≤512)→ps.map (List.map pj)=l.map (fk t)→Sq.putL ps r t=.inr (l.foldl (fun (r:List Nat) (i:Nat)=>(Bt.putI r (i:Int)).1) r,t)
 | [],[],r,_,_=>rfl
 | [],_ :: _,r,_,h=>by simp at h
 | _ :: _,[],r,_,h=>by simp at h
 | i :: l,p :: ps,r,hl,h=>by
  simp only [List.map_cons,List.cons.injEq] at h
  obtain ⟨h1,_⟩:=whole_form hT (hl i (by simp)).1 (ts:=p) (y:=[]) (by rw [h.1];simp) (hl i (by simp)).2 (fun z y' e=>by cases e)
  unfold Sq.putL
  rw [h1,if_pos rfl]
  show Sq.putL ps (Bt.putI r (i:Int)).1 t=_
  rw [putL_form hT l ps _ (fun j hj=>hl j (by simp [hj])) h.2,List.foldl_cons]
end
end Bk
theorem fold_has:∀ (l:List Nat) (r:List Nat),Ok r→(∀ i ∈ l,i<1024)→Ok (l.foldl (fun (r:List Nat) (i:Nat)=>(Bt.putI r (i:Int)).1) r)∧∀ n,n<1024→Bt.Bs.has (l.foldl (fun (r:List Nat) (i:Nat)=>(Bt.putI r (i:Int)).1) r) n=(Bt.Bs.has r n || decide (n ∈ l))
 | [],r,hr,_=>⟨hr,fun n _=>by simp⟩
 | i :: l,r,hr,h=>by
  have hi:=h i (by simp)
  have e:(Bt.putI r (i:Int)).1=Bt.Bs.put r i:=by rw [Bt.putI_nat r hi]
  obtain ⟨h1,h2⟩:=fold_has l (Bt.Bs.put r i) (Bt.Bs.put_ok hr i) (fun j hj=>h j (by simp [hj]))
  rw [List.foldl_cons,e]
  refine ⟨h1,fun n hn => ?_⟩
  rw [h2 n hn,Bt.Bs.has_put hr hi]
  by_cases hm:n ∈ l <;> by_cases hx:n=i <;> simp [hm,hx]
theorem fold_nums {r:List Nat} (hr:Ok r):(Bt.Bs.nums r).foldl (fun (r:List Nat) (i:Nat)=>(Bt.putI r (i:Int)).1) Bt.Bs.zero=r:=by
 obtain ⟨h1,h2⟩:=fold_has (Bt.Bs.nums r) Bt.Bs.zero Bt.Bs.zero_ok (fun i hi=>(Bt.Bs.mem_nums.1 hi).1)
 refine Bt.Bs.has_ext h1 hr fun n hn => ?_
 rw [h2 n hn,Bt.Bs.has_zero,Bool.false_or]
 cases hx:Bt.Bs.has r n
 ·rw [decide_eq_false]
  intro hm
  rw [(Bt.Bs.mem_nums.1 hm).2] at hx
  cases hx
 ·exact decide_eq_true (Bt.Bs.mem_nums.2 ⟨hn,hx⟩)
open Bk in
set_option maxRecDepth 100000 in
theorem parse_print {t:List Nd} (hT:Fm.Ok t) {r:List Nat} (hr:Ok r) {g:Int} (hq:rightQ t r g=true) (hc:cnt (toks (ahQ (jnF t (Bt.Bs.nums r)) ++ Pr.text t g))≤512):parseQ (ahQ (jnF t (Bt.Bs.nums r)) ++ Pr.text t g) t=(((r,g),(0,Sx.tz)),t):=by
 have hh:(∀ i ∈ Bt.Bs.nums r,Fm.has t (i:Int)=true)∧Fm.has t g=true:=by
  unfold rightQ at hq
  rw [Bool.and_eq_true,List.all_eq_true] at hq
  exact ⟨fun i hi=>hq.1 _ (List.mem_map.2 ⟨i,hi,rfl⟩),hq.2⟩
 obtain ⟨hl,hg⟩:=hh
 have hg0:=Fm.has_iff.1 hg
 obtain ⟨gn,rfl⟩:∃ gn:Nat,g=gn:=⟨g.toNat,by omega⟩
 have hfold:=fold_nums hr
 rw [parseQ_end,if_neg (by omega)]
 generalize Bt.Bs.nums r=l at *
 have hput:∀ (ps:List (List Sx.Tn)) (lg:List Sx.Tn),ps.map (List.map pj)=l.map (fk t)→lg.map pj=fk t gn→(∀ i ∈ l,cn (fk t i)≤512)→cn (fk t gn)≤512→Sq.putQ t ps lg=(((r,(gn:Int)),(0,Sx.tz)),t):=fun ps lg h1 h2 h3 h4=>by
  obtain ⟨h5,_⟩:=whole_form hT hg (ts:=lg) (y:=[]) (by rw [h2];simp) h4 (fun z y' e=>by cases e)
  unfold Sq.putQ
  rw [show Sq.zeroB=Bt.Bs.zero from rfl,putL_form hT l ps Bt.Bs.zero (fun i hi=>⟨hl i hi,h3 i hi⟩) h1,hfold]
  simp only
  rw [h5]
  rfl
 cases l with
 | nil =>
  have e:ahQ (jnF t []) ++ Pr.text t (gn:Int)=124 :: ([45] ++ 32 :: Pr.text t (gn:Int)):=rfl
  rw [e] at hc ⊢
  have hP:=toks_pj _ _ (toks_goal hT hg)
  generalize toks (124 :: ([45] ++ 32 :: Pr.text t (gn:Int)))=ts at *
  rw [cnt_pj,hP] at hc
  have hcg:cn (fk t gn)≤512:=by
   have h6:=(cn_le_of hc).1
   exact (cn_le_of (x:=[(3,Sq.sTurn)]) (y:=fk t gn) h6).2
  have hP2:ts.map pj=(3,Sq.sTurn) :: (fk t gn ++ [(0,[])]):=hP
  have hd:(ts.drop 1).map pj=fk t gn ++ [(0,[])]:=by rw [List.map_drop,hP2];rfl
  obtain ⟨lg,h1,h2⟩:=goal_form hT hg [] hd hcg
  unfold Sq.sidesR
  rw [sgn_head hP2,if_pos (by decide),h1]
  exact hput [] lg rfl h2 (fun i hi=>by cases hi) hcg
 | cons a l =>
  have ha:=hl a (by simp)
  rw [text_cons hT ha l gn] at hc ⊢
  have hP:=toks_pj _ (fk t a ++ XL t gn l) (by rw [List.map_append];exact cut_fk hT ha (soft_rest gn l) (toks_rest hT hg l (fun i hi=>hl i (by simp [hi]))))
  generalize toks (Pr.text t (a:Int) ++ restS t gn l)=ts at *
  rw [cnt_pj,hP] at hc
  rw [List.append_assoc] at hP hc
  obtain ⟨z,y,hz,hzn⟩:=pk_head hT (a+1) (a:Int) ha (by omega)
  have hP2:ts.map pj=z :: (y ++ (XL t gn l ++ [(0,[])])):=by rw [hP];show pk t (a+1) (a:Int) ++ _=_;rw [hz];rfl
  have hlen:l.length<ts.length+1:=by
   have h1:=congrArg List.length hP
   have h2:∀ l:List Nat,l.length≤(XL t gn l).length:=fun l=>by
    induction l with
    | nil=>exact Nat.zero_le _
    | cons i l ih=>simp only [XL,List.length_cons,List.length_append];omega
   have:=h2 l
   simp only [List.length_map,List.length_append] at h1
   omega
  obtain ⟨ps,rr,h1,h2,h3⟩:=lefts_form hT (g:=gn) l a (ts.length+1) [] ts ha (fun i hi=>hl i (by simp [hi])) hlen hP hc
  have h3':rr.map pj=(3,Sq.sTurn) :: (fk t gn ++ [(0,[])]):=h3
  have hd:(rr.drop 1).map pj=fk t gn ++ [(0,[])]:=by rw [List.map_drop,h3'];rfl
  have hcs:∀ l:List Nat,cn (XL t gn l ++ [(0,[])])≤512→(∀ i ∈ l,cn (fk t i)≤512)∧cn (fk t gn)≤512:=fun l=>by
   induction l with
   | nil=>intro h;exact ⟨fun i hi=>(by cases hi),(cn_le_of (x:=fk t gn) (cn_le_of (x:=[(3,Sq.sTurn)]) (y:=fk t gn ++ [(0,[])]) h).2).1⟩
   | cons i l ih =>
    intro h
    have e:XL t gn (i :: l) ++ [((0:Int),([]:List UInt8))]=[(3,Sq.sComma)] ++ (fk t i ++ (XL t gn l ++ [(0,[])])):=by simp [XL]
    rw [e] at h
    have h5:=cn_le_of (cn_le_of h).2
    obtain ⟨h6,h7⟩:=ih h5.2
    refine ⟨fun j hj => ?_,h7⟩
    rcases List.mem_cons.1 hj with rfl | hj
    ·exact h5.1
    ·exact h6 j hj
  obtain ⟨hc1,hc2⟩:=hcs l (cn_le_of hc).2
  obtain ⟨lg,h4,h5⟩:=goal_form hT hg ps hd hc2
  unfold Sq.sidesR
  rw [sgn_head hP2,if_neg (by simp only [Bool.and_eq_true,beq_iff_eq];exact hzn)]
  unfold Sq.leftsR
  rw [h1]
  simp only [Option.getD_some,List.nil_append]
  rw [if_neg (fun h=>absurd ((tk_head h3').1.symm.trans h.2) (by decide)),sgn_head h3',if_pos (by decide),h4]
  exact hput ps lg h2 h5 (fun i hi=>by
   rcases List.mem_cons.1 hi with rfl | hi
   ·exact (cn_le_of hc).1
   ·exact hc1 i hi) hc2
open Bk in
theorem print_scan {t:List Nd} (hT:Fm.Ok t) {r:List Nat} {g:Int} (hq:rightQ t r g=true):(Tk.scan (ahQ (jnF t (Bt.Bs.nums r)) ++ Pr.text t g)).2.1=0∧0<(Pr.text t g).length:=by
 unfold rightQ at hq
 rw [Bool.and_eq_true,List.all_eq_true] at hq
 have hl:∀ i ∈ Bt.Bs.nums r,Fm.has t (i:Int)=true:=fun i hi=>hq.1 _ (List.mem_map.2 ⟨i,hi,rfl⟩)
 have hg:=hq.2
 have hg0:=Fm.has_iff.1 hg
 obtain ⟨gn,rfl⟩:∃ gn:Nat,g=gn:=⟨g.toNat,by omega⟩
 refine ⟨?_,text_ne hT hg⟩
 generalize Bt.Bs.nums r=l at *
 cases l with
 | nil =>
  have e:ahQ (jnF t []) ++ Pr.text t (gn:Int)=124 :: ([45] ++ 32 :: Pr.text t (gn:Int)):=rfl
  rw [e]
  exact (toks_all _ _ (toks_goal hT hg)).1
 | cons a l =>
  rw [text_cons hT (hl a (by simp)) l gn]
  exact (toks_all _ _ (cut_fk hT (hl a (by simp)) (soft_rest gn l) (toks_rest hT hg l (fun i hi=>hl i (by simp [hi]))))).1
theorem print_back {t:List Nd} (hT:Fm.Ok t) {r:List Nat} (hr:Ok r) (g:Int):((printQ t r g).2≠0∧(printQ t r g).1=[])∨((printQ t r g).2=0∧0<(printQ t r g).1.length∧(printQ t r g).1.length≤65536∧(Tk.scan (printQ t r g).1).2.1=0∧(cnt (toks (printQ t r g).1)≤512→parseQ (printQ t r g).1 t=(((r,g),(0,Sx.tz)),t))):=by
 cases hq:rightQ t r g
 ·rw [print_not hq];exact Or.inl ⟨by simp,rfl⟩
 ·have h1:=print_scan hT hq
  have h2:=parse_print hT hr hq
  rw [print_once hq]
  generalize hx:ahQ (jnF t (Bt.Bs.nums r)) ++ Pr.text t g=x at *
  have h3:(Pr.text t g).length≤x.length:=by rw [← hx,List.length_append];omega
  by_cases h:x.length≤65536
  ·rw [if_pos h];exact Or.inr ⟨rfl,by simp only;omega,h,h1.1,h2⟩
  ·rw [if_neg h];exact Or.inl ⟨by simp,rfl⟩
end Go.Proofs.YtkmmlimekachbaaGreatDoor

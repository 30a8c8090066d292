/-
  Unravel and Above, plain: the tree and the part are well-formed, their maps are bounded morphisms. No condition.
-/
import Derived.Test.YtoedidbbjnnpnaaTH22
import Derived.Test.YtoedidbbjnnpnaaQMAbv
import Derived.Test.YtoedidbbjnnpnaaTH17
import Derived.Test.YtoedidbbjnnpnaaTH23
import Derived.Test.YtoedidbbjnnpnaaTH21
import Derived.Test.YtoedidbbjnnpnaaQMKeep
namespace Go.Proofs.Ytoedidbbjnnpnaa.Wm
open Go.RowKit
open Wd (Md Rc Ed Sub upd vl allW inW names)
set_option linter.unusedVariables false
set_option linter.unusedSimpArgs false
set_option linter.unusedSectionVars false
section
variable (t:List (List Int)) (x:Nat)
theorem uE_pre:∀ {j k:Nat},j≤k→∃ l,uEnds t x k=uEnds t x j ++ l:=by
 intro j k h
 induction k with
 | zero=>obtain rfl:j=0:=by omega
         exact ⟨[],by simp⟩
 | succ k ih =>
  by_cases e:j=k+1
  ·subst e;exact ⟨[],by simp⟩
  ·obtain ⟨l,hl⟩:=ih (by omega)
   exact ⟨l ++ (t.getD ((uEnds t x k).getD k 0) []).map Int.toNat,by show uEnds t x k ++ _=_;rw [hl,List.append_assoc]⟩
theorem uE_len {j k:Nat} (h:j≤k):(uEnds t x j).length≤(uEnds t x k).length:=by
 obtain ⟨l,hl⟩:=uE_pre t x h
 rw [hl,List.length_append];omega
theorem uE_get {i j k:Nat} (h:j≤k) (hi:i<(uEnds t x j).length):(uEnds t x k).getD i 0=(uEnds t x j).getD i 0:=by
 obtain ⟨l,hl⟩:=uE_pre t x h
 rw [hl,List.getD_eq_getElem?_getD,List.getD_eq_getElem?_getD,List.getElem?_append_left hi]
theorem uE_next (k:Nat):(uEnds t x (k+1)).length=(uEnds t x k).length+(t.getD ((uEnds t x k).getD k 0) []).length:=by
 show (uEnds t x k ++ _).length=_
 rw [List.length_append,List.length_map]
theorem uUp_get {k i:Nat} (h:i<k):(uUp t x k)[i]?=some ((List.range (t.getD ((uEnds t x i).getD i 0) []).length).map fun j=>(((uEnds t x i).length+j:Nat):Int)):=by
 induction k with
 | zero=>exact absurd h (Nat.not_lt_zero _)
 | succ k ih =>
  show (uUp t x k ++ [_])[i]?=_
  by_cases e:i=k
  ·subst e
   rw [List.getElem?_append_right (by rw [uUp_len];omega),uUp_len,Nat.sub_self];rfl
  ·rw [List.getElem?_append_left (by rw [uUp_len];omega)]
   exact ih (by omega)
end
section
variable {m:Md} {M:Nat→Nat→Bool} {K x:Nat}
def eN (t:List (List Int)) (x K i:Nat):Nat:=(uEnds t x K).getD i 0
theorem un_ed {t:List (List Int)} (hj:∀ j,j<K→j<(uEnds t x j).length) {i j:Nat}:Ed (uUp t x K) i j ↔ i<K∧∃ p,p<(t.getD (eN t x K i) []).length∧j=(uEnds t x i).length+p:=by
 constructor
 ·rintro ⟨r,hr,hb⟩
  have hi:i<K:=by
   rcases Nat.lt_or_ge i K with h | h
   ·exact h
   ·rw [List.getElem?_eq_none (by rw [uUp_len];omega)] at hr;cases hr
  rw [uUp_get t x hi] at hr
  cases hr
  obtain ⟨p,hp,e⟩:=List.mem_map.1 hb
  refine ⟨hi,p,?_,by omega⟩
  unfold eN
  rw [uE_get t x (Nat.le_of_lt hi) (hj i hi)]
  exact List.mem_range.1 hp
 ·rintro ⟨hi,p,hp,rfl⟩
  unfold eN at hp
  rw [uE_get t x (Nat.le_of_lt hi) (hj i hi)] at hp
  exact ⟨_,uUp_get t x hi,List.mem_map.2 ⟨p,List.mem_range.2 hp,rfl⟩⟩
theorem un_end {t:List (List Int)} (hj:∀ j,j<K→j<(uEnds t x j).length) {i p:Nat} (hi:i<K) (hp:p<(t.getD (eN t x K i) []).length):(uEnds t x i).length+p<(uEnds t x K).length∧eN t x K ((uEnds t x i).length+p)=((t.getD (eN t x K i) [])[p]).toNat:=by
 have e1:eN t x K i=(uEnds t x i).getD i 0:=by unfold eN;rw [uE_get t x (Nat.le_of_lt hi) (hj i hi)]
 rw [e1] at hp
 have h1:=uE_next t x i
 have h2:=uE_len t x (show i+1≤K from hi)
 refine ⟨by omega,?_⟩
 show (uEnds t x K).getD _ 0=_
 rw [uE_get t x (show i+1≤K from hi) (by omega)]
 show (uEnds t x i ++ _).getD _ 0=_
 rw [List.getD_eq_getElem?_getD,List.getElem?_append_right (by omega),Nat.add_sub_cancel_left,List.getElem?_map]
 simp only [e1]
 rw [List.getElem?_eq_getElem hp];rfl
variable (hG:Wd.Good m) (hO:IsO m.up M) (hx:x<m.up.length) (hj:∀ j,j<K→j<(uEnds (tdU M m.up.length m.up.length) x j).length) (hK:K=(uEnds (tdU M m.up.length m.up.length) x K).length)
include hG hO hx in
theorem un_lt:∀ k,∀ v ∈ uEnds (tdU M m.up.length m.up.length) x k,v<m.up.length :=
 uEnds_lt hx fun a b hb=>by
  by_cases ha:a<m.up.length
  ·have hm:(tdU M m.up.length m.up.length).getD a []=(nxF M m.up.length a).map fun n:Nat=>(n:Int):=by
    rw [List.getD_eq_getElem?_getD,tdU_get,if_pos ha];rfl
   rw [hm] at hb
   obtain ⟨v,hv,rfl⟩:=List.mem_map.1 hb
   have:=(mem_nx.1 hv).1
   omega
  ·rw [List.getD_eq_getElem?_getD,tdU_get,if_neg ha] at hb;cases hb
include hG hO hx hK in
theorem un_eN {i:Nat} (hi:i<K):eN (tdU M m.up.length m.up.length) x K i<m.up.length:=by
 unfold eN
 rw [List.getD_eq_getElem?_getD,List.getElem?_eq_getElem (by omega)]
 exact un_lt hG hO hx K _ (List.getElem_mem _)
theorem row_td {a:Nat} (ha:a<m.up.length):(tdU M m.up.length m.up.length).getD a []=(nxF M m.up.length a).map fun n:Nat=>(n:Int):=by
 rw [List.getD_eq_getElem?_getD,tdU_get,if_pos ha];rfl
include hG hO hx hj hK in
theorem un_step {i j:Nat} (h:Ed (uUp (tdU M m.up.length m.up.length) x K) i j):i<j∧j<K∧Rc m.up (eN (tdU M m.up.length m.up.length) x K i) (eN (tdU M m.up.length m.up.length) x K j):=by
 obtain ⟨hi,p,hp,rfl⟩:=(un_ed hj).1 h
 obtain ⟨h1,h2⟩:=un_end hj hi hp
 have h3:=hj i hi
 refine ⟨by omega,by omega,?_⟩
 rw [h2]
 have hl:=un_eN hG hO hx hK hi
 have hm:(((tdU M m.up.length m.up.length).getD (eN (tdU M m.up.length m.up.length) x K i) [])[p]) ∈ (nxF M m.up.length (eN (tdU M m.up.length m.up.length) x K i)).map fun n:Nat=>(n:Int):=by
  rw [← row_td hl];exact List.getElem_mem _
 obtain ⟨v,hv,e⟩:=List.mem_map.1 hm
 rw [← e,Int.toNat_natCast]
 exact (hO _ _).1 (mem_nx.1 hv).2.2.1
include hG hO hx hj hK in
theorem un_rc {i j:Nat} (h:Rc (uUp (tdU M m.up.length m.up.length) x K) i j) (hi:i<K):i≤j∧j<K∧Rc m.up (eN (tdU M m.up.length m.up.length) x K i) (eN (tdU M m.up.length m.up.length) x K j):=by
 induction h with
 | refl=>exact ⟨Nat.le_refl _,hi,.refl _⟩
 | step e _ ih =>
  obtain ⟨h1,h2,h3⟩:=un_step hG hO hx hj hK e
  obtain ⟨h4,h5,h6⟩:=ih h2
  exact ⟨by omega,h5,h3.trans h6⟩
include hG hO hx hj hK in
theorem un_back {d c:Nat} (h:Rc (tdU M m.up.length m.up.length) d c):∀ i,i<K→eN (tdU M m.up.length m.up.length) x K i=d→∃ b,Rc (uUp (tdU M m.up.length m.up.length) x K) i b∧eN (tdU M m.up.length m.up.length) x K b=c:=by
 induction h with
 | refl=>exact fun i hi e=>⟨i,.refl _,e⟩
 | step e _ ih =>
  intro i hi e1
  obtain ⟨ha,hb⟩:=ed_td.1 e
  have hm:=List.mem_map_of_mem (f:=fun n:Nat=>(n:Int)) hb
  rw [← row_td ha,← e1] at hm
  obtain ⟨p,hp,e2⟩:=List.getElem_of_mem hm
  obtain ⟨h1,h2⟩:=un_end hj hi hp
  rw [e2,Int.toNat_natCast] at h2
  obtain ⟨b,hb1,hb2⟩:=ih _ (by omega) h2
  exact ⟨b,.step ((un_ed hj).2 ⟨hi,p,hp,rfl⟩) hb1,hb2⟩
def unM (m:Md) (M:Nat→Nat→Bool) (x K:Nat):Md:=⟨uUp (tdU M m.up.length m.up.length) x K,(uEnds (tdU M m.up.length m.up.length) x K).map (vl m)⟩
include hG hO hx hj hK in
theorem un_bnd:BndP (unM m M x K) m ((uEnds (tdU M m.up.length m.up.length) x K).map fun n:Nat=>(n:Int)):=fun i hi=>by
 have hi':i<K:=by rw [show (unM m M x K).up.length=K from uUp_len _ _ _] at hi;exact hi
 have hn:∀ b,numF ((uEnds (tdU M m.up.length m.up.length) x K).map fun n:Nat=>(n:Int)) b=eN (tdU M m.up.length m.up.length) x K b:=fun b=>by
  unfold numF eN
  rw [List.getD_eq_getElem?_getD,List.getD_eq_getElem?_getD,List.getElem?_map]
  cases (uEnds (tdU M m.up.length m.up.length) x K)[b]? <;> simp
 rw [hn]
 refine ⟨?_,fun c=>⟨?_,fun h => ?_⟩⟩
 ·show ((uEnds (tdU M m.up.length m.up.length) x K).map (vl m)).getD i []=vl m ((uEnds (tdU M m.up.length m.up.length) x K).getD i 0)
  rw [List.getD_eq_getElem?_getD,List.getD_eq_getElem?_getD,List.getElem?_map,List.getElem?_eq_getElem (by omega)];rfl
 ·rintro ⟨b,hb,e⟩
  rw [hn] at e
  rw [← e]
  exact (un_rc hG hO hx hj hK hb hi').2.2
 ·have h2:Rc (tdU M m.up.length m.up.length) (eN (tdU M m.up.length m.up.length) x K i) c:=(isO_td hO hG _ _).1 ((hO _ _).2 h)
  obtain ⟨b,hb,e⟩:=un_back hG hO hx hj hK h2 i hi' rfl
  exact ⟨b,hb,by rw [hn];exact e⟩
include hG hO hx hj hK in
theorem un_good (hK5:K≤512):Wd.Good (unM m M x K):=by
 have hlen:(unM m M x K).up.length=K:=uUp_len _ _ _
 have hvlen:(unM m M x K).val.length=K:=by show (List.map _ _).length=K;rw [List.length_map];exact hK.symm
 obtain ⟨g1,g2,g3,g4,g5⟩:=Wd.shaped_and hG.shape
 have hpos:1≤K:=by
  have h1:=uE_len (tdU M m.up.length m.up.length) x (Nat.zero_le K)
  have h2:(uEnds (tdU M m.up.length m.up.length) x 0).length=1:=rfl
  omega
 have hv:∀ i,i<K→vl (unM m M x K) i=vl m (eN (tdU M m.up.length m.up.length) x K i):=fun i hi=>by
  show ((uEnds (tdU M m.up.length m.up.length) x K).map (vl m)).getD i []=vl m ((uEnds (tdU M m.up.length m.up.length) x K).getD i 0)
  rw [List.getD_eq_getElem?_getD,List.getD_eq_getElem?_getD,List.getElem?_map,List.getElem?_eq_getElem (by omega)];rfl
 refine ⟨?_,fun a b ha r1 r2 => ?_,fun a b ha r => ?_⟩
 ·unfold Wd.shaped
  simp only [Bool.and_eq_true,decide_eq_true_eq,List.all_eq_true]
  rw [hlen,hvlen]
  refine ⟨⟨⟨⟨hpos,hK5⟩,rfl⟩,fun r hr => ?_⟩,fun l hl => ?_⟩
  ·obtain ⟨i,hi,rfl⟩:=List.getElem_of_mem hr
   have hi':i<K:=by rw [show (unM m M x K).up.length=K from hlen] at hi;exact hi
   unfold Wd.allW
   rw [List.all_eq_true]
   intro y hy
   have hr2:(uUp (tdU M m.up.length m.up.length) x K)[i]?=some ((unM m M x K).up[i]):=List.getElem?_eq_getElem hi
   rw [uUp_get _ _ hi'] at hr2
   rw [← Option.some.inj hr2] at hy
   obtain ⟨p,hp,rfl⟩:=List.mem_map.1 hy
   have h3:=un_step hG hO hx hj hK (i:=i) (j:=(uEnds (tdU M m.up.length m.up.length) x i).length+p) ⟨_,uUp_get _ _ hi',List.mem_map.2 ⟨p,hp,rfl⟩⟩
   unfold Wd.inW
   simp
   omega
  ·obtain ⟨v,hv2,rfl⟩:=List.mem_map.1 hl
   have hvl:=un_lt hG hO hx K v hv2
   rw [vl_in (show v<m.val.length by omega)]
   exact g5 _ (List.getElem_mem _)
 ·rw [hlen] at ha
  have h1:=un_rc hG hO hx hj hK r1 ha
  have h2:=un_rc hG hO hx hj hK r2 h1.2.1
  omega
 ·rw [hlen] at ha
  have h1:=un_rc hG hO hx hj hK r ha
  rw [hv a ha,hv b h1.2.1]
  exact hG.mono _ _ (un_eN hG hO hx hK ha) h1.2.2
end
theorem mapOk_nat {a b:Md} {l:List Nat} (h1:l.length=a.up.length) (h2:∀ v ∈ l,v<b.up.length):mapOk a b (l.map fun n:Nat=>(n:Int))=true:=by
 unfold mapOk
 rw [List.length_map,decide_eq_true h1,Bool.true_and,List.all_eq_true]
 intro y hy
 obtain ⟨v,hv,rfl⟩:=List.mem_map.1 hy
 have:=h2 v hv
 unfold inW
 simp
 omega
theorem numF_nat (l:List Nat) (b:Nat):numF (l.map fun n:Nat=>(n:Int)) b=l.getD b 0:=by
 unfold numF
 rw [List.getD_eq_getElem?_getD,List.getD_eq_getElem?_getD,List.getElem?_map]
 cases l[b]? <;> simp
section
variable {m:Md} {M:Nat→Nat→Bool} {l:List Nat} {a:Nat} (hO:IsO m.up M) (hG:Wd.Good m) (ha:a<m.up.length) (hl:l=numsTo (fun x=>M a x.toNat) m.up.length)
def abT (m:Md) (M:Nat→Nat→Bool) (l:List Nat):Md:=⟨tdU (fun i j=>M (l.getD i 0) (l.getD j 0)) l.length l.length,l.map (vl m)⟩
theorem abM_len:(abM m l).up.length=l.length:=by unfold abM abU;simp
include hO hG ha hl in
theorem abT_eq {M':Nat→Nat→Bool} (hO':IsO (abM m l).up M'):abT m M l=tdM (abM m l) M':=by
 have h:=ab_isO hO hG hl hO'
 unfold abT tdM
 rw [abM_len]
 have e:tdU (fun i j=>M (l.getD i 0) (l.getD j 0)) l.length l.length=tdU M' l.length l.length:=tdU_congr fun i j hi hj=>(h i j hi hj).symm
 rw [e];rfl
include hO hG ha hl in
theorem ab_bnd:BndP (abT m M l) m (l.map fun n:Nat=>(n:Int))∧Wd.Good (abT m M l):=by
 obtain ⟨M',hO'⟩:=isO_ex (abM m l).up
 have hGa:=ab_good hO hG ha hl
 rw [abT_eq hO hG ha hl hO']
 refine ⟨fun i hi => ?_,good_td hO' hGa⟩
 rw [tdM_len,abM_len] at hi
 rw [numF_nat]
 refine ⟨?_,fun c=>⟨?_,fun h => ?_⟩⟩
 ·show (l.map (vl m)).getD i []=_
  rw [List.getD_eq_getElem?_getD,List.getD_eq_getElem?_getD,List.getElem?_map,List.getElem?_eq_getElem hi];rfl
 ·rintro ⟨b,hb,e⟩
  rw [numF_nat] at e
  obtain ⟨hbl,h2⟩:=(ab_rc hO hG hl hi).1 ((tdM_rc hO' hGa i b).1 hb)
  rw [← e,List.getD_eq_getElem?_getD,List.getD_eq_getElem?_getD,List.getElem?_eq_getElem hi,List.getElem?_eq_getElem hbl]
  exact h2
 ·rw [List.getD_eq_getElem?_getD,List.getElem?_eq_getElem hi] at h
  have h:Rc m.up l[i] c:=h
  have hli:=(ab_mem hl).1 (List.getElem_mem hi)
  have hc:c ∈ l:=(ab_mem hl).2 ⟨good_lt hG hli.1 h,(hO _ _).2 (((hO _ _).1 hli.2).trans h)⟩
  obtain ⟨b,hb,rfl⟩:=List.getElem_of_mem hc
  exact ⟨b,(tdM_rc hO' hGa i b).2 ((ab_rc hO hG hl hi).2 ⟨hb,h⟩),by rw [numF_nat,List.getD_eq_getElem?_getD,List.getElem?_eq_getElem hb];rfl⟩
end
end Go.Proofs.Ytoedidbbjnnpnaa.Wm
/-
  The glued model, plain: above the places stand the models that were glued; the new world is its root. No condition.
-/
namespace Go.Proofs.Ytoedidbbjnnpnaa.Wm
open Go.RowKit
open Wd (Md Rc Ed Sub upd vl allW inW names)
set_option linter.unusedVariables false
set_option linter.unusedSimpArgs false
set_option linter.unusedSectionVars false
section
variable {ml:List Md} {rs:Nat→Nat} {atoms:List ByteArray}
theorem gN_pos (k:Nat):1≤gN ml k:=gN_mono (ml:=ml) (Nat.zero_le k)
theorem gN_find:∀ {k a:Nat},1≤a→a<gN ml k→∃ i w,i<k∧w<(gM ml i).up.length∧a=gN ml i+w
 | 0,a,h1,h2=>by unfold gN at h2;omega
 | k+1,a,h1,h2=>by
  by_cases h:a<gN ml k
  ·obtain ⟨i,w,hi,hw,e⟩:=gN_find h1 h
   exact ⟨i,w,by omega,hw,e⟩
  ·have h3:gN ml (k+1)=gN ml k+(gM ml k).up.length:=rfl
   exact ⟨k,a - gN ml k,Nat.lt_succ_self k,by omega,by omega⟩
theorem gN_one {i j w v:Nat} (hw:w<(gM ml i).up.length) (hv:v<(gM ml j).up.length) (e:gN ml i+w=gN ml j+v):i=j∧w=v:=by
 have h1:gN ml (i+1)=gN ml i+(gM ml i).up.length:=rfl
 have h2:gN ml (j+1)=gN ml j+(gM ml j).up.length:=rfl
 rcases Nat.lt_trichotomy i j with h | h | h
 ·have:=gN_mono (ml:=ml) (show i+1≤j from h);omega
 ·subst h;exact ⟨rfl,by omega⟩
 ·have:=gN_mono (ml:=ml) (show j+1≤i from h);omega
theorem gRows_get:∀ {k i w:Nat},i<k→w<(gM ml i).up.length→(gRows ml k)[gN ml i - 1+w]?=some (((gM ml i).up.getD w []).map fun u:Int=>(gN ml i:Int)+u)
 | 0,i,w,h,_=>absurd h (Nat.not_lt_zero _)
 | k+1,i,w,h,hw=>by
  have hl:=gRows_len (ml:=ml) k
  show (gRows ml k ++ gRow ml k)[_]?=_
  by_cases e:i=k
  ·subst e
   rw [List.getElem?_append_right (by omega),show gN ml i - 1+w - (gRows ml i).length=w by omega]
   unfold gRow
   rw [List.getElem?_map,List.getElem?_eq_getElem hw,List.getD_eq_getElem?_getD,List.getElem?_eq_getElem hw];rfl
  ·have h1:gN ml (i+1)=gN ml i+(gM ml i).up.length:=rfl
   have h2:=gN_mono (ml:=ml) (show i+1≤k by omega)
   have h3:=gN_pos (ml:=ml) i
   rw [List.getElem?_append_left (by omega)]
   exact gRows_get (by omega) hw
theorem gVals_get (hv:∀ k,(gM ml k).val.length=(gM ml k).up.length):∀ {k i w:Nat},i<k→w<(gM ml i).up.length→(gVals ml k)[gN ml i - 1+w]?=some (vl (gM ml i) w)
 | 0,i,w,h,_=>absurd h (Nat.not_lt_zero _)
 | k+1,i,w,h,hw=>by
  have hlen:∀ k,(gVals ml k).length+1=gN ml k:=by
   intro k
   induction k with
   | zero=>rfl
   | succ k ih =>
    show (gVals ml k ++ (gM ml k).val).length+1=gN ml k+(gM ml k).up.length
    rw [List.length_append,hv k];omega
  have hl:=hlen k
  have h3:=gN_pos (ml:=ml) i
  show (gVals ml k ++ (gM ml k).val)[_]?=_
  by_cases e:i=k
  ·subst e
   rw [List.getElem?_append_right (by omega),show gN ml i - 1+w - (gVals ml i).length=w by omega,List.getElem?_eq_getElem (by rw [hv];exact hw)]
   rw [vl_in (show w<(gM ml i).val.length by rw [hv];exact hw)]
  ·have h1:gN ml (i+1)=gN ml i+(gM ml i).up.length:=rfl
   have h2:=gN_mono (ml:=ml) (show i+1≤k by omega)
   rw [List.getElem?_append_left (by omega)]
   exact gVals_get hv (by omega) hw
variable {n:Nat} (hg:∀ k,k<n→Wd.Good (gM ml k))
def glX (ml:List Md) (rs:Nat→Nat) (atoms:List ByteArray) (n:Nat):Md:=⟨gUp ml rs n 0,gVal ml atoms n 0⟩
theorem glX_len:(glX ml rs atoms n).up.length=gN ml n:=gUp_len (Nat.zero_le _)
theorem glX_row0:(glX ml rs atoms n).up[0]?=some (gRow0 ml rs n):=rfl
theorem glX_row {i w:Nat} (hi:i<n) (hw:w<(gM ml i).up.length):(glX ml rs atoms n).up[gN ml i+w]?=some (((gM ml i).up.getD w []).map fun u:Int=>(gN ml i:Int)+u):=by
 have h3:=gN_pos (ml:=ml) i
 show (gRow0 ml rs n :: (gRows ml n ++ (gRow ml n).take 0))[_]?=_
 rw [List.take_zero,List.append_nil,show gN ml i+w=(gN ml i - 1+w)+1 by omega,List.getElem?_cons_succ]
 exact gRows_get hi hw
include hg in
theorem gl_edge {i w c:Nat} (hi:i<n) (hw:w<(gM ml i).up.length):Ed (glX ml rs atoms n).up (gN ml i+w) c ↔ ∃ v,Ed (gM ml i).up w v∧c=gN ml i+v:=by
 have hrow:(gM ml i).up[w]?=some ((gM ml i).up.getD w []):=by rw [List.getD_eq_getElem?_getD,List.getElem?_eq_getElem hw];rfl
 constructor
 ·rintro ⟨r,hr,hc⟩
  rw [glX_row hi hw] at hr
  cases hr
  obtain ⟨u,hu,e⟩:=List.mem_map.1 hc
  have hmem:(gM ml i).up.getD w [] ∈ (gM ml i).up:=by
   rw [List.getD_eq_getElem?_getD,List.getElem?_eq_getElem hw];exact List.getElem_mem _
  have hin:=(Wd.shaped_and (hg i hi).shape).2.2.2.1 _ hmem
  unfold Wd.allW at hin
  have h1:=inW_ok.1 (List.all_eq_true.1 hin u hu)
  exact ⟨u.toNat,⟨_,hrow,by rw [show ((u.toNat:Nat):Int)=u by omega];exact hu⟩,by omega⟩
 ·rintro ⟨v,⟨r,hr,hv⟩,rfl⟩
  rw [hrow] at hr
  cases hr
  exact ⟨_,glX_row hi hw,List.mem_map.2 ⟨(v:Int),hv,by omega⟩⟩
include hg in
theorem gl_rcU {a c:Nat} (h:Rc (glX ml rs atoms n).up a c):∀ i w,i<n→w<(gM ml i).up.length→a=gN ml i+w→∃ v,Rc (gM ml i).up w v∧c=gN ml i+v:=by
 induction h with
 | refl=>exact fun i w _ _ e=>⟨w,.refl _,e⟩
 | step e _ ih =>
  intro i w hi hw e1
  subst e1
  obtain ⟨v,hv,e2⟩:=(gl_edge hg hi hw).1 e
  have hv2:=Wd.ed_lt (Wd.shaped_and (hg i hi).shape).2.2.2.1 hv
  obtain ⟨v',h1,h2⟩:=ih i v hi hv2 e2
  exact ⟨v',.step hv h1,h2⟩
include hg in
theorem gl_rcD {i:Nat} (hi:i<n) {w v:Nat} (h:Rc (gM ml i).up w v):w<(gM ml i).up.length→Rc (glX ml rs atoms n).up (gN ml i+w) (gN ml i+v):=by
 induction h with
 | refl=>exact fun _=>.refl _
 | step e _ ih =>
  intro hw
  exact .step ((gl_edge hg hi hw).2 ⟨_,e,rfl⟩) (ih (Wd.ed_lt (Wd.shaped_and (hg i hi).shape).2.2.2.1 e))
include hg in
theorem gl_vl (hv:∀ k,(gM ml k).val.length=(gM ml k).up.length) {i w:Nat} (hi:i<n) (hw:w<(gM ml i).up.length):vl (glX ml rs atoms n) (gN ml i+w)=vl (gM ml i) w:=by
 have h3:=gN_pos (ml:=ml) i
 have h:(glX ml rs atoms n).val[gN ml i+w]?=some (vl (gM ml i) w):=by
  show (atoms :: (gVals ml n ++ ((gM ml n).val).take 0))[_]?=_
  rw [List.take_zero,List.append_nil,show gN ml i+w=(gN ml i - 1+w)+1 by omega,List.getElem?_cons_succ]
  exact gVals_get hv hi hw
 show (glX ml rs atoms n).val.getD _ []=_
 rw [List.getD_eq_getElem?_getD,h];rfl
include hg in
theorem gl_bnd (hv:∀ k,(gM ml k).val.length=(gM ml k).up.length) {M':Nat→Nat→Bool} (hX:Wd.Good (glX ml rs atoms n)) (hO:IsO (glX ml rs atoms n).up M') {i:Nat} (hi:i<n) :
 BndP (gM ml i) (tdM (glX ml rs atoms n) M') (((List.range (gM ml i).up.length).map fun w=>gN ml i+w).map fun n:Nat=>(n:Int))∧mapOk (gM ml i) (tdM (glX ml rs atoms n) M') (((List.range (gM ml i).up.length).map fun w=>gN ml i+w).map fun n:Nat=>(n:Int))=true:=by
 have hn:∀ w,w<(gM ml i).up.length→numF (((List.range (gM ml i).up.length).map fun w=>gN ml i+w).map fun n:Nat=>(n:Int)) w=gN ml i+w:=fun w hw=>by
  rw [numF_nat,List.getD_eq_getElem?_getD,List.getElem?_map,List.getElem?_range hw];rfl
 refine ⟨fun w hw => ?_,mapOk_nat (by simp) fun v hv2 => ?_⟩
 ·rw [hn w hw]
  refine ⟨(gl_vl (rs:=rs) (atoms:=atoms) hg hv hi hw).symm,fun c=>⟨?_,fun h => ?_⟩⟩
  ·rintro ⟨b,hb,e⟩
   rw [hn b (good_lt (hg i hi) hw hb)] at e
   rw [← e]
   exact (tdM_rc hO hX _ _).2 (gl_rcD hg hi hb hw)
  ·obtain ⟨v,h1,h2⟩:=gl_rcU hg ((tdM_rc hO hX _ _).1 h) i w hi hw rfl
   exact ⟨v,h1,by rw [hn v (good_lt (hg i hi) hw h1)];exact h2.symm⟩
 ·obtain ⟨w,hw,rfl⟩:=List.mem_map.1 hv2
  have hw:=List.mem_range.1 hw
  rw [tdM_len,glX_len]
  have h1:gN ml (i+1)=gN ml i+(gM ml i).up.length:=rfl
  have h2:=gN_mono (ml:=ml) (show i+1≤n from hi)
  omega
include hg in
theorem gl_root (hr:∀ k,k<n→∃ M,IsO (gM ml k).up M∧RootR M (gM ml k) (rs k:Int) true) {c:Nat} (hc:c<gN ml n):Rc (glX ml rs atoms n).up 0 c:=by
 by_cases h0:c=0
 ·subst h0;exact .refl _
 ·obtain ⟨i,w,hi,hw,rfl⟩:=gN_find (by omega) hc
  obtain ⟨M,hO,h⟩:=hr i hi
  rcases h with ⟨_,_,h⟩ | ⟨_,_,h,_⟩ | ⟨k,_,hk,e,_,hall,_⟩
  ·cases h
  ·cases h
  ·have e:rs i=k:=by omega
   have h1:=(hO k w).1 (List.all_eq_true.1 hall w (List.mem_range.2 hw))
   refine .step ⟨gRow0 ml rs n,glX_row0,List.mem_map.2 ⟨i,List.mem_range.2 hi,rfl⟩⟩ ?_
   rw [e]
   exact gl_rcD hg hi h1 hk
theorem root_zero {X:Md} {M:Nat→Nat→Bool} {r:Int} {ok:Bool} (hG:Wd.Good X) (hO:IsO X.up M) (h0:∀ c,c<X.up.length→Rc X.up 0 c) (h:RootR M X r ok):r=0∧ok=true:=by
 have hpos:=(Wd.shaped_and hG.shape).1
 have hall:(List.range X.up.length).all (M 0)=true:=List.all_eq_true.2 fun c hc=>(hO 0 c).2 (h0 c (List.mem_range.1 hc))
 rcases h with ⟨h,_⟩ | ⟨_,_,_,h⟩ | ⟨k,_,_,e,e2,_,h⟩
 ·exact absurd hG h
 ·have:=h 0 (by omega);rw [hall] at this;cases this
 ·have hk:k=0:=by
   rcases Nat.eq_zero_or_pos k with h0 | h0
   ·exact h0
   ·have:=h 0 h0;rw [hall] at this;cases this
  subst hk
  exact ⟨e,e2⟩
end
end Go.Proofs.Ytoedidbbjnnpnaa.Wm
/-
  MorphKeeps, plain: what is at hand behind each call. No condition.
-/
namespace Go.Proofs.Ytoedidbbjnnpnaa.Wm
open Go.RowKit
open Wd (Md Rc Ed Sub upd vl allW inW names)
set_option linter.unusedVariables false
set_option linter.unusedSimpArgs false
set_option linter.unusedSectionVars false
theorem bd_yes {m n:Md} {fl:List Int} {r:Bool} {er:Int} (hG:Wd.Good m) (hN:Wd.Good n) (hok:mapOk m n fl=true) (hB:BndP m n fl) (h:BdR m n fl r er):r=true∧er=0:=by
 rcases h with ⟨h,_⟩ | ⟨_,h,_⟩ | ⟨_,_,h,h0⟩
 ·exact absurd ⟨hG,hN⟩ h
 ·rw [hok] at h;cases h
 ·exact ⟨h.2 hB,h0⟩
theorem fit_vals {m:Md} {M:Nat→Nat→Bool} {l:List Nat} (hf:Fit m) (hG:Wd.Good m) (hl:∀ v ∈ l,v<m.up.length) (hn:l.length≤512):Fit ⟨tdU M l.length l.length,l.map (vl m)⟩:=by
 have hv:=(Wd.shaped_and hG.shape).2.2.1
 have h0:Fit ⟨List.replicate l.length [],l.map (vl m)⟩:=by
  refine ⟨by simp;omega,by simp;omega,fun r hr => ?_,fun r hr => ?_⟩
  ·obtain ⟨_,rfl⟩:=List.mem_replicate.1 hr
   exact ⟨by simp,fun i hi=>by cases hi⟩
  ·obtain ⟨v,hv2,rfl⟩:=List.mem_map.1 hr
   rw [vl_in (show v<m.val.length by have:=hl v hv2;omega)]
   exact hf.2.2.2 _ (List.getElem_mem _)
 have h1:=fit_td (M:=M) h0 (by simp;exact hn)
 simpa using h1
section
variable {m:Md} {M:Nat→Nat→Bool} {q:Md} {E M':Nat→Nat→Bool}
theorem quo_map (hG:Wd.Good m) (hC:ClsP m (cnF E)) (hq:IsQ m q (cnF E)) (hQ:Wd.Good q) (hO:IsO q.up M') :
 mapOk m (tdM q M') (((List.range m.up.length).map (cnF E)).map fun n:Nat=>(n:Int))=true∧BndP m (tdM q M') (((List.range m.up.length).map (cnF E)).map fun n:Nat=>(n:Int)):=by
 refine ⟨mapOk_nat (by simp) fun v hv => ?_,q_bnd hq hQ hO (fun a ha => ?_) fun a b ha h=>good_lt hG ha h⟩
 ·obtain ⟨a,ha,rfl⟩:=List.mem_map.1 hv
  rw [tdM_len]
  exact (hq.ex _).2 ⟨a,List.mem_range.1 ha,rfl⟩
 ·rw [numF_nat,List.getD_eq_getElem?_getD,List.getElem?_map,List.getElem?_range ha];rfl
variable {l:List Nat} {a:Nat}
theorem abv_map (hO:IsO m.up M) (hG:Wd.Good m) (hf:Fit m) (ha:a<m.up.length) (hl:l=numsTo (fun x=>M a x.toNat) m.up.length) :
 mapOk (abT m M l) m (l.map fun n:Nat=>(n:Int))=true∧BndP (abT m M l) m (l.map fun n:Nat=>(n:Int))∧Wd.Good (abT m M l)∧Fit (abT m M l):=by
 obtain ⟨h1,h2⟩:=ab_bnd hO hG ha hl
 have hlen:(abT m M l).up.length=l.length:=tdU_len _ _ _
 have hlt:∀ v ∈ l,v<m.up.length:=fun v hv=>((ab_mem hl).1 hv).1
 refine ⟨mapOk_nat hlen.symm hlt,h1,h2,fit_vals hf hG hlt ?_⟩
 have:=(Wd.shaped_and h2.shape).2.1
 omega
theorem un_map {x K:Nat} (hO:IsO m.up M) (hG:Wd.Good m) (hf:Fit m) (hx:x<m.up.length) (hj:∀ j,j<K→j<(uEnds (tdU M m.up.length m.up.length) x j).length) (hK:K=(uEnds (tdU M m.up.length m.up.length) x K).length) (hK5:K≤512) :
 mapOk (unM m M x K) m ((uEnds (tdU M m.up.length m.up.length) x K).map fun n:Nat=>(n:Int))=true∧BndP (unM m M x K) m ((uEnds (tdU M m.up.length m.up.length) x K).map fun n:Nat=>(n:Int))∧Wd.Good (unM m M x K)∧Fit (unM m M x K):=by
 have hlen:(unM m M x K).up.length=K:=uUp_len _ _ _
 have hg:=un_good hG hO hx hj hK hK5
 have hv:=(Wd.shaped_and hG.shape).2.2.1
 refine ⟨mapOk_nat (by omega) (un_lt hG hO hx K),un_bnd hG hO hx hj hK,hg,⟨by omega,?_,fun r hr => ?_,fun r hr => ?_⟩⟩
 ·show (List.map _ _).length≤_;rw [List.length_map];omega
 ·obtain ⟨i,hi,rfl⟩:=List.getElem_of_mem hr
  have hi':i<K:=by omega
  have hr2:(uUp (tdU M m.up.length m.up.length) x K)[i]?=some ((unM m M x K).up[i]):=List.getElem?_eq_getElem hi
  rw [uUp_get _ _ hi'] at hr2
  have h1:=uE_next (tdU M m.up.length m.up.length) x i
  have h2:=uE_len (tdU M m.up.length m.up.length) x (show i+1≤K from hi')
  rw [← Option.some.inj hr2]
  refine ⟨by rw [List.length_map,List.length_range];omega,fun y hy => ?_⟩
  obtain ⟨p,hp,rfl⟩:=List.mem_map.1 hy
  have:=List.mem_range.1 hp
  omega
 ·obtain ⟨v,hv2,rfl⟩:=List.mem_map.1 hr
  have:=un_lt hG hO hx K v hv2
  rw [vl_in (show v<m.val.length by omega)]
  exact hf.2.2.2 _ (List.getElem_mem _)
end
theorem abm_form {W:World} {B:Nat} {m:Md} {M:Nat→Nat→Bool} {a:Int} {u v l:Value} {er:Int} (h:AbmR W B m M a u v l er):(∃ p n c,u=.slice p n c)∧(∃ p n c,v=.slice p n c):=by
 rcases h with ⟨_,_,rfl,rfl,_⟩ | ⟨_,_,_,rfl,rfl,_⟩ | ⟨_,_,_,l0,_,_,⟨xs,h1,_⟩,⟨ys,h2,_⟩⟩
 ·exact ⟨⟨_,_,_,rfl⟩,⟨_,_,_,rfl⟩⟩
 ·exact ⟨⟨_,_,_,rfl⟩,⟨_,_,_,rfl⟩⟩
 ·obtain ⟨p,c,e⟩:=own_form h1
  obtain ⟨p',c',e'⟩:=own_form h2
  exact ⟨⟨_,_,_,e⟩,⟨_,_,_,e'⟩⟩
theorem unr_form {W:World} {B:Nat} {m:Md} {M:Nat→Nat→Bool} {a:Int} {u v l:Value} {er:Int} (h:UnrR W B m M a u v l er):(∃ p n c,u=.slice p n c)∧(∃ p n c,v=.slice p n c):=by
 rcases h with ⟨_,_,rfl,rfl,_⟩ | ⟨_,_,_,rfl,rfl,_⟩ | ⟨_,_,k,t,_,_,_,h⟩
 ·exact ⟨⟨_,_,_,rfl⟩,⟨_,_,_,rfl⟩⟩
 ·exact ⟨⟨_,_,_,rfl⟩,⟨_,_,_,rfl⟩⟩
 ·rcases h with ⟨_,_,_,rfl,rfl,_⟩ | ⟨_,_,_,⟨xs,h1,_⟩,⟨ys,h2,_⟩⟩
  ·exact ⟨⟨_,_,_,rfl⟩,⟨_,_,_,rfl⟩⟩
  ·obtain ⟨p,c,e⟩:=own_form h1
   obtain ⟨p',c',e'⟩:=own_form h2
   exact ⟨⟨_,_,_,e⟩,⟨_,_,_,e'⟩⟩
end Go.Proofs.Ytoedidbbjnnpnaa.Wm

/-
  MorphLeast: plain: a quotient's quotient is itself. No condition.
-/
import Derived.Test.YtoedidbbjnnpnaaQMQuoW
import Derived.Test.YtoedidbbjnnpnaaQWRight
import Derived.Test.YtoedidbbjnnpnaaTH17
import Derived.Test.YtoedidbbjnnpnaaTH18
import Derived.Test.YtoedidbbjnnpnaaTH3
namespace Go.Proofs.Ytoedidbbjnnpnaa.Wm
open Go.RowKit
open Wd (Md Rc Ed Sub upd vl allW inW names)
set_option linter.unusedVariables false
theorem good_lt {m:Md} (hG:Wd.Good m) {a b:Nat} (ha:a<m.up.length) (h:Rc m.up a b):b<m.up.length:=Wd.rc_lt (Wd.shaped_and hG.shape).2.2.2.1 h ha
theorem vl_in {m:Md} {a:Nat} (ha:a<m.val.length):vl m a=m.val[a]:=by
 unfold vl;simp [ha]
theorem quo_rows {m q:Md} {cls:Nat→Nat} (hq:IsQ m q cls) (hQ:Wd.Good q) (hG:Wd.Good m):∀ r ∈ q.val,r ∈ m.val:=fun r hr=>by
 obtain ⟨c,hc,rfl⟩:=List.getElem_of_mem hr
 have hl:=(Wd.shaped_and hQ.shape).2.2.1
 have hlm:=(Wd.shaped_and hG.shape).2.2.1
 obtain ⟨a,ha,e⟩:=(hq.ex c).1 (by omega)
 have h1:=hq.val a ha
 rw [e,vl_in hc,vl_in (by omega:a<m.val.length)] at h1
 rw [h1]
 exact List.getElem_mem _
theorem least_cls {m q:Md} {E M':Nat→Nat→Bool} (hG:Wd.Good m) (hC:ClsP m (cnF E)) (hq:IsQ m q (cnF E)) (hQ:Wd.Good q) (hO:IsO q.up M'):ClsP (tdM q M') fun w=>w :=
 (hq.cls hC fun a b ha h=>good_lt hG ha h).cong (tdM_len _ _).symm rfl fun a b=>(tdM_rc hO hQ a b).symm
theorem least_ids {Q:Md} {E:Nat→Nat→Bool} (hG:Wd.Good Q) (h:ClsP Q fun w=>w) (hE:ClsP Q (cnF E)):(List.range Q.up.length).map (cnF E)=List.range Q.up.length:=by
 have h1:=hE.one h fun a b ha hr=>good_lt hG ha hr
 calc (List.range Q.up.length).map (cnF E)=(List.range Q.up.length).map id:=List.map_congr_left fun a ha=>h1 a (List.mem_range.1 ha)
  _=_:=by simp
theorem least_same {q q3:Md} {E3 M' M3:Nat→Nat→Bool} (hQ:Wd.Good q) (hO:IsO q.up M') (h:ClsP (tdM q M') fun w=>w) (hC:ClsP (tdM q M') (cnF E3)) (hq:IsQ (tdM q M') q3 (cnF E3)) (hQ3:Wd.Good q3) (hO3:IsO q3.up M3):tdM q3 M3=tdM q M':=by
 have hT:Wd.Good (tdM q M'):=good_td hO hQ
 have hid:=hC.one h fun a b ha hr=>good_lt hT ha hr
 have hl:(tdM q M').up.length=q.up.length:=tdM_len _ _
 have hlen:q3.up.length=q.up.length:=by
  refine Nat.le_antisymm (Nat.le_of_not_lt fun hlt => ?_) (Nat.le_of_not_lt fun hlt => ?_)
  ·obtain ⟨a,ha,e⟩:=(hq.ex q.up.length).1 hlt
   have:=hid a ha
   omega
  ·exact absurd ((hq.ex q3.up.length).2 ⟨q3.up.length,by omega,hid _ (by omega)⟩) (Nat.lt_irrefl _)
 have hv3:=(Wd.shaped_and hQ3.shape).2.2.1
 have hvq:=(Wd.shaped_and hQ.shape).2.2.1
 have hval:q3.val=q.val:=List.ext_getElem (by omega) fun i h1 h2=>by
  have ha:i<(tdM q M').up.length:=by omega
  have e:=hq.val i ha
  rw [hid i ha,vl_in h1] at e
  rw [e]
  exact vl_in (m:=tdM q M') h2
 have hM:∀ i j,i<q.up.length→j<q.up.length→M3 i j=M' i j:=fun i j hi hj=>by
  have hi':i<(tdM q M').up.length:=by omega
  have h1:=hq.rc i j hi'
  rw [hid i hi'] at h1
  have h2:Sees (tdM q M') (cnF E3) i j ↔ Rc (tdM q M').up i j:=by
   constructor
   ·rintro ⟨x,hx,e⟩
    rw [hid x (good_lt hT hi' hx)] at e
    rw [← e];exact hx
   ·intro hx
    exact ⟨j,hx,hid j (good_lt hT hi' hx)⟩
  have h3:M3 i j=true ↔ M' i j=true:=(hO3 i j).trans (h1.trans (h2.trans ((tdM_rc hO hQ i j).trans (hO i j).symm)))
  cases e1:M3 i j <;> cases e2:M' i j <;> simp [e1,e2] at h3 ⊢
 unfold tdM
 rw [hlen,hval,tdU_congr hM]
theorem quo_form {W:World} {B:Nat} {m:Md} {u v l:Value} {er:Int} (h:QuoR W B m u v l er):(∃ p n c,u=.slice p n c)∧(∃ p n c,v=.slice p n c):=by
 rcases h with ⟨_,_,rfl,rfl,_⟩ | ⟨_,_,E,q,M',_,_,_,_,_,_,_,⟨xs,h1,_⟩,⟨ys,h2,_⟩⟩
 ·exact ⟨⟨_,_,_,rfl⟩,⟨_,_,_,rfl⟩⟩
 ·obtain ⟨p,c,e⟩:=own_form h1
  obtain ⟨p',c',e'⟩:=own_form h2
  exact ⟨⟨_,_,_,e⟩,⟨_,_,_,e'⟩⟩
end Go.Proofs.Ytoedidbbjnnpnaa.Wm
/-
  The document's Root: of any model. No condition.
-/
namespace Go.Proofs.Ytoedidbbjnnpnaa.Wm
open Go.RowKit Go.Maps
open Wd (Md allW inW names Sub Rc vl)
set_option linter.unusedSimpArgs false
theorem allTo_step (p:Nat→Bool) (k:Nat):(List.range (k+1)).all p=((List.range k).all p && p k):=by
 rw [List.range_succ,List.all_append]
 simp
set_option maxRecDepth 100000 in
set_option maxHeartbeats 4000000 in
theorem rroot_any (w:World) {M:Nat→Nat→Bool} {L:Nat} {uv vv:Value} {m:Md} (hO:IsO m.up M) (hm:IsM w L uv vv m) (hf:Fit m) (hL:L≤w.heap.size) :
 Calls Try.prog 29 #[.agg #[uv,vv]] w fun e w'=>∃ (r:Int) (ok:Bool),e=.returned (.tuple #[.int .i64 r,.bool ok])∧RootR M m r ok∧Below w.heap.size w w':=by
 have K:=show Hid (∀ W,Below w.heap.size w W→Calls Try.prog 34 #[.agg #[uv,vv]] W fun e w'=>((∃ O Ra,e=.returned (.tuple #[.slice (some ⟨O,0,none⟩) m.up.length m.up.length,.bool true])∧Ob w' W.heap.size O m.up.length m.up.length Ra M∧Wd.Good m)∨(e=.returned (.tuple #[.slice none 0 0,.bool false])∧¬ Wd.Good m))∧Below W.heap.size W w') from fun W hW=>right_any W hO (hm.below (hW.mono hL)) hf (Nat.le_trans hL hW.size)
 clear hm hf hO
 go_enter Try.func29,Try.ntmps29
 go_wp2_with (refine wpList_box 25 _ rfl _ rfl rfl ?_)
 intro w1 b1 hN
 have HB1:=show Hid (Below w.heap.size w w1∧Cl w1 b1 #[uv,vv] 25) from ⟨hN.bel,hN.blk⟩
 have K1:=show Hid _ from K.out w1 hN.bel
 clear hN K
 go_wp2_with (refine wpList_ldw 25 _ rfl b1 rfl _ _ HB1.out.2 rfl Try.underlying25 sizeM rfl ?_)
 go_wp2_with fail
 refine Calls.mono K1.out ?_
 rintro e w2 ⟨hr,hb2⟩
 have HB2:=show Hid (Below w.heap.size w w2) from HB1.out.1.trans (hb2.mono HB1.out.1.size)
 clear K1 hb2
 rcases hr with ⟨O,Ra,rfl,hob,hg⟩ | ⟨rfl,hg⟩
 ·have HG:=show Hid (Wd.Good m∧Ob w2 w1.heap.size O m.up.length m.up.length Ra M) from ⟨hg,hob⟩
  have hn:=(Wd.shaped_and hg.shape).2.1
  have HQ:=show Hid (∀ a,a<m.up.length→w2.cell? ⟨O,a,none⟩=some (.slice (some ⟨Ra a,0,none⟩) m.up.length m.up.length)∧∀ b,b<m.up.length→w2.cell? ⟨Ra a,b,none⟩=some (.bool (M a b))) from fun a ha =>
   ⟨(HG.out.2.out.cell ha).trans (by rw [if_pos ha]),fun b hb=>(HG.out.2.row a ha).1.cell hb⟩
  clear hg hob HB1
  go_wp2_with fail
  go_loop [6,7,8] (fun i _ _=>∃ k:Nat,k≤m.up.length∧i=.int .i64 (k:Int)∧Hid (∀ a,a<k→(List.range m.up.length).all (M a)=false)) (fun i _ _=>m.up.length - (intOf i).toNat)
  case atStart=>exact ⟨0,Nat.zero_le _,rfl,fun a h=>absurd h (Nat.not_lt_zero _)⟩
  case round =>
   obtain ⟨aw,haw,rfl,HI⟩:=hrel
   by_cases hla:aw<m.up.length
   ·have hai:(aw:Int)<(m.up.length:Int):=by omega
    have HS:=show Hid ((List.range m.up.length).all (M aw)=false→∀ a,a<aw+1→(List.range m.up.length).all (M a)=false) from fun h a ha=>by
     by_cases e:a=aw
     ·rw [e];exact h
     ·exact HI.out a (by omega)
    have HYES:=show Hid ((List.range m.up.length).all (M aw)=true→RootR M m (aw:Int) true) from fun h=>Or.inr (Or.inr ⟨aw,HG.out.1,hla,rfl,rfl,h,HI.out⟩)
    clear HI
    have c1:=(HQ.out aw hla).1
    go_wp2_with fail
    go_loop [7,8] (fun v i=>∃ k:Nat,k≤m.up.length∧i=.int .i64 (k:Int)∧v=.bool ((List.range k).all (M aw))) (fun _ i=>m.up.length - (intOf i).toNat)
    case atStart=>exact ⟨0,Nat.zero_le _,rfl,rfl⟩
    case round =>
     obtain ⟨b,hb,rfl,rfl⟩:=hrel
     by_cases hlb:b<m.up.length
     ·have hbi:(b:Int)<(m.up.length:Int):=by omega
      have c2:=(HQ.out aw hla).2 b hlb
      have HST:=show Hid ((List.range (b+1)).all (M aw)=((List.range b).all (M aw) && M aw b)) from allTo_step _ _
      generalize (List.range b).all (M aw)=y at *
      generalize M aw b=z at *
      cases y
      ·go_wp2_with fail
       go_round
       case rel=>exact ⟨b+1,by omega,val_int (by omega),by rw [HST.out];rfl⟩
       case measure=>(simp only [intOf];omega)
      ·go_wp2_with fail
       go_round
       case rel=>exact ⟨b+1,by omega,val_int (by omega),by rw [HST.out];rfl⟩
       case measure=>(simp only [intOf];omega)
     ·obtain rfl:b=m.up.length:=by omega
      generalize (List.range m.up.length).all (M aw)=y at *
      cases y
      ·have HS2:=show Hid _ from HS.out (by first | rfl | trivial)
       clear HS HYES
       go_wp2_with fail
       go_round
       case rel=>exact ⟨aw+1,by omega,val_int (by omega),HS2⟩
       case measure=>(simp only [intOf];omega)
      ·have HY2:=show Hid (RootR M m (aw:Int) true) from HYES.out (by first | rfl | trivial)
       clear HS HYES
       go_wp2_with fail
       go_ret2
       exact ⟨(aw:Int),Or.inr ⟨rfl,HY2.out,HB2.out⟩⟩
   ·obtain rfl:aw=m.up.length:=by omega
    go_wp2_with fail
    go_ret2
    exact ⟨0,Or.inl ⟨rfl,Or.inr (Or.inl ⟨HG.out.1,rfl,rfl,HI.out⟩),HB2.out⟩⟩
 ·have HG:=show Hid _ from hg
  clear hg
  go_wp2_with fail
  go_ret2
  exact ⟨0,false,rfl,Or.inl ⟨HG.out,rfl,rfl⟩,HB2.out⟩
end Go.Proofs.Ytoedidbbjnnpnaa.Wm
/-
  Heights, plain: they are there, and reckoned turn by turn. No condition.
-/
namespace Go.Proofs.Ytoedidbbjnnpnaa.Wm
open Wd (Md Rc upd)
def hF (M:Nat→Nat→Bool) (n:Nat):Nat→Nat→Nat
 | 0,_=>0
 | f+1,a=>mxL (hF M n f) (numsTo (ovP M a) n)+1
section
variable {M:Nat→Nat→Bool} {n:Nat}
theorem mem_ov {a b:Nat}:b ∈ numsTo (ovP M a) n ↔ b<n∧b≠a∧M a b=true:=by
 unfold numsTo ovP
 rw [List.mem_filter,List.mem_range]
 simp only [Bool.and_eq_true,decide_eq_true_eq,Int.toNat_natCast]
 constructor
 ·rintro ⟨h1,h2,h3⟩
  exact ⟨h1,fun e=>h2 (by rw [e]),h3⟩
 ·rintro ⟨h1,h2,h3⟩
  exact ⟨h1,fun e=>h2 (by omega),h3⟩
theorem mxL_congr {h h':Nat→Nat}:∀ {l:List Nat} (m:Nat),(∀ v ∈ l,h v=h' v)→l.foldl (fun m v=>max m (h v)) m=l.foldl (fun m v=>max m (h' v)) m
 | [],_,_=>rfl
 | x :: r,m,e=>by
  rw [List.foldl_cons,List.foldl_cons,e x (List.mem_cons_self)]
  exact mxL_congr _ fun v hv=>e v (List.mem_cons_of_mem _ hv)
theorem mxL_eq {h h':Nat→Nat} {l:List Nat} (e:∀ v ∈ l,h v=h' v):mxL h l=mxL h' l:=mxL_congr 0 e
def rk (M:Nat→Nat→Bool) (n a:Nat):Nat:=(numsTo (ovP M a) n).length
structure Tn (M:Nat→Nat→Bool) (n:Nat) (h hv:Nat→Nat) (t k:Nat):Prop where
 or:∀ a,a<n→hv a=0∨hv a=h a
 all:∀ a,a<n→h a≤t→hv a=h a
 now:∀ a,a<k→h a≤t+1→hv a=h a
theorem Tn.skip {h hv:Nat→Nat} {t k:Nat} (T:Tn M n h hv t k) (hk:k<n) (hs:hv k≠0):Tn M n h hv t (k+1) :=
 ⟨T.or,T.all,fun a ha h0=>by
  by_cases e:a=k
  ·subst e
   exact (T.or a hk).resolve_left hs
  ·exact T.now a (by omega) h0⟩
theorem Tn.set {h hv:Nat→Nat} {t k:Nat} (hg:Hg M n h) (T:Tn M n h hv t k) (hk:k<n) (hr:∀ b ∈ numsTo (ovP M k) n,hv b≠0):mxL hv (numsTo (ovP M k) n)+1=h k∧Tn M n h (upd hv k (mxL hv (numsTo (ovP M k) n)+1)) t (k+1):=by
 have e:mxL hv (numsTo (ovP M k) n)+1=h k:=by
  rw [hg.eq k hk,mxL_eq (h:=hv) (h':=h)]
  intro b hb
  exact (T.or b (mem_ov.1 hb).1).resolve_left (hr b hb)
 refine ⟨e,?_⟩
 rw [e]
 refine ⟨fun a ha => ?_,fun a ha h0 => ?_,fun a ha h0 => ?_⟩
 ·by_cases e:a=k
  ·subst e;rw [Wd.upd_same];exact Or.inr rfl
  ·rw [Wd.upd_other _ _ _ e];exact T.or a ha
 ·by_cases e:a=k
  ·subst e;rw [Wd.upd_same]
  ·rw [Wd.upd_other _ _ _ e];exact T.all a ha h0
 ·by_cases e:a=k
  ·subst e;rw [Wd.upd_same]
  ·rw [Wd.upd_other _ _ _ e];exact T.now a (by omega) h0
theorem Tn.done {h hv:Nat→Nat} (T:Tn M n h hv n 0) (hl:∀ a,a<n→h a≤n):∀ a,a<n→hv a=h a:=fun a ha=>T.all a ha (hl a ha)
end
end Go.Proofs.Ytoedidbbjnnpnaa.Wm
/-
  The document's ready, Heights, Height: of any model. No condition.
-/
namespace Go.Proofs.Ytoedidbbjnnpnaa.Wm
open Go.RowKit Go.Maps
open Wd (Md allW inW names Sub Rc vl upd)
set_option linter.unusedSimpArgs false
def Oc (w:World) (O n:Nat) (Ra:Nat→Nat) (M:Nat→Nat→Bool):Prop:=∀ a,a<n→w.cell? ⟨O,a,none⟩=some (.slice (some ⟨Ra a,0,none⟩) n n)∧∀ b,b<n→w.cell? ⟨Ra a,b,none⟩=some (.bool (M a b))
theorem Ob.oc {w:World} {B O n:Nat} {Ra:Nat→Nat} {M:Nat→Nat→Bool} (h:Ob w B O n n Ra M):Oc w O n Ra M:=fun a ha=>⟨(h.out.cell ha).trans (by rw [if_pos ha]),fun _ hb=>(h.row a ha).1.cell hb⟩
end Go.Proofs.Ytoedidbbjnnpnaa.Wm
/-
  The document's Bounded, plain: what is asked of each world. No condition.
-/
namespace Go.Proofs.Ytoedidbbjnnpnaa.Wm
open Go.RowKit
open Wd (Md Rc Ed Sub upd vl allW inW names)
set_option linter.unusedVariables false
def FwdOk (m:Md) (M P:Nat→Nat→Bool) (F:Nat→Nat) (a k:Nat):Prop:=∀ b,b<k→M a b=true→P (F a) (F b)=true
def BckOk (m:Md) (M P:Nat→Nat→Bool) (F:Nat→Nat) (a k:Nat):Prop:=∀ c,c<k→P (F a) c=true→∃ b,b<m.up.length∧M a b=true∧F b=c
def RowOk (m n:Md) (M P:Nat→Nat→Bool) (F:Nat→Nat) (a:Nat):Prop:=vl m a=vl n (F a)∧FwdOk m M P F a m.up.length∧BckOk m M P F a n.up.length
theorem FwdOk.next {m:Md} {M P:Nat→Nat→Bool} {F:Nat→Nat} {a k:Nat} (h:FwdOk m M P F a k) (h1:M a k=true→P (F a) (F k)=true):FwdOk m M P F a (k+1):=fun b hb=>by
 by_cases e:b=k
 ·subst e;exact h1
 ·exact h b (by omega)
theorem BckOk.next {m:Md} {M P:Nat→Nat→Bool} {F:Nat→Nat} {a k:Nat} (h:BckOk m M P F a k) (h1:P (F a) k=true→∃ b,b<m.up.length∧M a b=true∧F b=k):BckOk m M P F a (k+1):=fun c hc=>by
 by_cases e:c=k
 ·subst e;exact h1
 ·exact h c (by omega)
theorem bndP_iff {m n:Md} {fl:List Int} {M P:Nat→Nat→Bool} (hG:Wd.Good m) (hN:Wd.Good n) (hO:IsO m.up M) (hP:IsO n.up P) (hF:∀ a,a<m.up.length→numF fl a<n.up.length) :
 BndP m n fl ↔ ∀ a,a<m.up.length→RowOk m n M P (numF fl) a:=by
 refine ⟨fun h a ha => ?_,fun h a ha => ?_⟩
 ·obtain ⟨h1,h2⟩:=h a ha
  refine ⟨h1,fun b hb hM=>(hP _ _).2 ((h2 _).1 ⟨b,(hO _ _).1 hM,rfl⟩),fun c hc hp => ?_⟩
  obtain ⟨b,hb,e⟩:=(h2 c).2 ((hP _ _).1 hp)
  exact ⟨b,good_lt hG ha hb,(hO _ _).2 hb,e⟩
 ·obtain ⟨h1,h2,h3⟩:=h a ha
  refine ⟨h1,fun c=>⟨?_,fun hc => ?_⟩⟩
  ·rintro ⟨b,hb,rfl⟩
   exact (hP _ _).1 (h2 b (good_lt hG ha hb) ((hO _ _).2 hb))
  ·obtain ⟨b,hb,hM,e⟩:=h3 c (good_lt hN (hF a ha) hc) ((hP _ _).2 hc)
   exact ⟨b,(hO _ _).1 hM,e⟩
def BkIs (M P:Nat→Nat→Bool) (F:Nat→Nat) (a c:Nat) (z:Bool) (k:Nat):Prop:=z=true ↔ (P (F a) c=false∨∃ x,x<k∧M a x=true∧F x=c)
theorem BkIs.zero {M P:Nat→Nat→Bool} {F:Nat→Nat} {a c:Nat} {z:Bool} (h:z = !(P (F a) c)):BkIs M P F a c z 0:=by
 subst h
 refine ⟨fun h=>Or.inl (by simpa using h),fun h => ?_⟩
 rcases h with h | ⟨x,hx,_⟩
 ·simp [h]
 ·exact absurd hx (Nat.not_lt_zero _)
theorem BkIs.keep {M P:Nat→Nat→Bool} {F:Nat→Nat} {a c k:Nat} (h:BkIs M P F a c true k):BkIs M P F a c true (k+1) :=
 ⟨fun _=>(h.1 rfl).imp id fun ⟨x,hx,h1⟩=>⟨x,by omega,h1⟩,fun _=>rfl⟩
theorem BkIs.hit {M P:Nat→Nat→Bool} {F:Nat→Nat} {a c k:Nat} (h1:M a k=true) (h2:F k=c):BkIs M P F a c true (k+1):=⟨fun _=>Or.inr ⟨k,Nat.lt_succ_self _,h1,h2⟩,fun _=>rfl⟩
theorem BkIs.miss {M P:Nat→Nat→Bool} {F:Nat→Nat} {a c k:Nat} (h:BkIs M P F a c false k) (h1:M a k=true→F k≠c):BkIs M P F a c false (k+1):=by
 refine ⟨fun h=>(by cases h),fun h2 => ?_⟩
 rcases h2 with h2 | ⟨x,hx,h3,h4⟩
 ·exact h.2 (Or.inl h2)
 ·by_cases e:x=k
  ·subst e;exact absurd h4 (h1 h3)
  ·exact h.2 (Or.inr ⟨x,by omega,h3,h4⟩)
theorem mapOk_no {m n:Md} {fl:List Int} (h:¬ fl.length=m.up.length∨∃ k,∃ hk:k<fl.length,inW n.up.length fl[k]=false):mapOk m n fl=false:=by
 unfold mapOk
 rcases h with h | ⟨k,hk,h⟩
 ·simp [h]
 ·have:fl.all (inW n.up.length)=false:=List.all_eq_false.2 ⟨fl[k],List.getElem_mem hk,by rw [h];decide⟩
  rw [this];simp
theorem mapOk_yes {m n:Md} {fl:List Int} (h:fl.length=m.up.length) (h2:∀ k (hk:k<fl.length),inW n.up.length fl[k]=true):mapOk m n fl=true:=by
 unfold mapOk
 rw [decide_eq_true h,Bool.true_and]
 exact List.all_eq_true.2 fun x hx=>by
  obtain ⟨i,hi,rfl⟩:=List.getElem_of_mem hx
  exact h2 i hi
theorem inW_ok {n:Nat} {x:Int}:inW n x=true ↔ 0≤x∧x<n:=by
 unfold inW
 simp
theorem lat_oc {w:World} {B O n:Nat} {Ra:Nat→Nat} {M:Nat→Nat→Bool} (h:Ob w B O n n Ra M):∀ W,Below w.heap.size w W→Oc W O n Ra M:=fun W hW=>(h.later hW).oc
end Go.Proofs.Ytoedidbbjnnpnaa.Wm
/-
  Where the formulas of a table are forced, plain: read off the rows; kept by a bounded morphism. No condition.
-/
namespace Go.Proofs.Ytoedidbbjnnpnaa.Wm
open Go.RowKit
open Wd (Md Rc Ed Sub upd vl allW inW names)
open Fm (Nd)
set_option linter.unusedVariables false
set_option linter.unusedSimpArgs false
def rwD (t:List Nd) (i:Nat):Nd:=t.getD i Fm.z
theorem rwD_at {t:List Nd} {i:Nat} (hi:i<t.length):rwD t i=t[i]:=by
 unfold rwD
 rw [List.getD_eq_getElem?_getD,List.getElem?_eq_getElem hi];rfl
def rwsT (t:List Nd):Rws:=⟨fun i=>if (rwD t i).k=1 then 0 else if (rwD t i).k=3 then 2 else if (rwD t i).k=4 then 3 else if (rwD t i).k=5 then 4 else 1,fun i=>(rwD t i).s,fun i=>(rwD t i).l.toNat,fun i=>(rwD t i).r.toNat⟩
def sF (M:Nat→Nat→Bool) (n:Nat) (V:Nat→List ByteArray) (t:List Nd) (i a:Nat):Bool:=frcF M n V (rwsT t) (i+1) i a
theorem prt_lt {t:List Nd} (h:Fm.Ok t) {i:Nat} (hi:i<t.length) (hj:(rwD t i).k=3∨(rwD t i).k=4∨(rwD t i).k=5):0≤(rwD t i).l∧(rwD t i).l<i∧0≤(rwD t i).r∧(rwD t i).r<i:=by
 have hc:=h.chk i hi
 rw [← rwD_at hi] at hc
 generalize rwD t i=n at *
 have hl:(t.take i).length=i:=by simp;omega
 unfold Fm.check Fm.shaped at hc
 have h1:n.k≠1:=by omega
 have h2:n.k≠2:=by omega
 have h3:Fm.jn n.k=true:=by unfold Fm.jn;rcases hj with e | e | e <;> simp [e]
 rw [if_neg h1,if_neg h2,if_pos h3] at hc
 by_cases hs:(n.s.size == 0 && Fm.has (t.take i) n.l && Fm.has (t.take i) n.r)=true
 ·simp only [Bool.and_eq_true] at hs
  have k1:=Fm.has_iff.1 hs.1.2
  have k2:=Fm.has_iff.1 hs.2
  omega
 ·rw [if_neg hs] at hc;omega
section
variable {M:Nat→Nat→Bool} {n:Nat} {V:Nat→List ByteArray} {t:List Nd}
theorem frc_stable (h:Fm.Ok t):∀ i,i<t.length→∀ k,i<k→∀ a,frcF M n V (rwsT t) k i a=sF M n V t i a:=by
 intro i
 induction i using Nat.strongRecOn with
 | _ i ih =>
  intro hi k hk a
  obtain ⟨k,rfl⟩:∃ k',k=k'+1:=⟨k - 1,by omega⟩
  unfold sF
  rw [frcF,frcF]
  have hkd:(rwsT t).kd i=if (rwD t i).k=1 then 0 else if (rwD t i).k=3 then 2 else if (rwD t i).k=4 then 3 else if (rwD t i).k=5 then 4 else 1:=rfl
  by_cases hj:(rwD t i).k=3∨(rwD t i).k=4∨(rwD t i).k=5
  ·have hp:=prt_lt h hi hj
   have hl:(rwsT t).lf i=(rwD t i).l.toNat:=rfl
   have hr:(rwsT t).rt i=(rwD t i).r.toNat:=rfl
   have e1:∀ b,frcF M n V (rwsT t) k ((rwsT t).lf i) b=frcF M n V (rwsT t) i ((rwsT t).lf i) b:=fun b=>by
    rw [hl,ih (rwD t i).l.toNat (by omega) (by omega) k (by omega) b,ih (rwD t i).l.toNat (by omega) (by omega) i (by omega) b]
   have e2:∀ b,frcF M n V (rwsT t) k ((rwsT t).rt i) b=frcF M n V (rwsT t) i ((rwsT t).rt i) b:=fun b=>by
    rw [hr,ih (rwD t i).r.toNat (by omega) (by omega) k (by omega) b,ih (rwD t i).r.toNat (by omega) (by omega) i (by omega) b]
   simp only [e1,e2]
  ·have h3:(rwsT t).kd i≠2∧(rwsT t).kd i≠3∧(rwsT t).kd i≠4:=by
    rw [hkd]
    have a1:¬ (rwD t i).k=3:=fun e=>hj (Or.inl e)
    have a2:¬ (rwD t i).k=4:=fun e=>hj (Or.inr (Or.inl e))
    have a3:¬ (rwD t i).k=5:=fun e=>hj (Or.inr (Or.inr e))
    rw [if_neg a1,if_neg a2,if_neg a3]
    split <;> simp
   rw [if_neg h3.1,if_neg h3.2.1,if_neg h3.2.2,if_neg h3.1,if_neg h3.2.1,if_neg h3.2.2]
theorem sF_un (i a:Nat):sF M n V t i a =
 if (rwsT t).kd i=0 then (V a).any fun s=>decide (s=(rwsT t).nm i)
 else if (rwsT t).kd i=2 then frcF M n V (rwsT t) i ((rwsT t).lf i) a && frcF M n V (rwsT t) i ((rwsT t).rt i) a
 else if (rwsT t).kd i=3 then frcF M n V (rwsT t) i ((rwsT t).lf i) a || frcF M n V (rwsT t) i ((rwsT t).rt i) a
 else if (rwsT t).kd i=4 then (List.range n).all fun b => !(M a b && frcF M n V (rwsT t) i ((rwsT t).lf i) b && !frcF M n V (rwsT t) i ((rwsT t).rt i) b)
 else false:=by
 unfold sF;rw [frcF]
theorem sF_atom {i a:Nat} (hk:(rwD t i).k=1):sF M n V t i a=(V a).any fun s=>decide (s=(rwD t i).s):=by
 rw [sF_un]
 have e:(rwsT t).kd i=0:=by show (if _ then _ else _)=_;rw [if_pos hk]
 rw [if_pos e];rfl
theorem sF_and (h:Fm.Ok t) {i a:Nat} (hi:i<t.length) (hk:(rwD t i).k=3):sF M n V t i a=(sF M n V t (rwD t i).l.toNat a && sF M n V t (rwD t i).r.toNat a):=by
 have hp:=prt_lt h hi (Or.inl hk)
 rw [sF_un]
 have e:(rwsT t).kd i=2:=by show (if _ then _ else _)=_;rw [if_neg (by omega),if_pos hk]
 rw [e,if_neg (by decide),if_pos rfl]
 show (frcF M n V (rwsT t) i (rwD t i).l.toNat a && frcF M n V (rwsT t) i (rwD t i).r.toNat a)=_
 rw [frc_stable h _ (by omega) i (by omega),frc_stable h _ (by omega) i (by omega)]
theorem sF_or (h:Fm.Ok t) {i a:Nat} (hi:i<t.length) (hk:(rwD t i).k=4):sF M n V t i a=(sF M n V t (rwD t i).l.toNat a || sF M n V t (rwD t i).r.toNat a):=by
 have hp:=prt_lt h hi (Or.inr (Or.inl hk))
 rw [sF_un]
 have e:(rwsT t).kd i=3:=by show (if _ then _ else _)=_;rw [if_neg (by omega),if_neg (by omega),if_pos hk]
 rw [e,if_neg (by decide),if_neg (by decide),if_pos rfl]
 show (frcF M n V (rwsT t) i (rwD t i).l.toNat a || frcF M n V (rwsT t) i (rwD t i).r.toNat a)=_
 rw [frc_stable h _ (by omega) i (by omega),frc_stable h _ (by omega) i (by omega)]
theorem sF_imp (h:Fm.Ok t) {i a:Nat} (hi:i<t.length) (hk:(rwD t i).k=5):sF M n V t i a=(List.range n).all fun b => !(M a b && sF M n V t (rwD t i).l.toNat b && !sF M n V t (rwD t i).r.toNat b):=by
 have hp:=prt_lt h hi (Or.inr (Or.inr hk))
 rw [sF_un]
 have e:(rwsT t).kd i=4:=by show (if _ then _ else _)=_;rw [if_neg (by omega),if_neg (by omega),if_neg (by omega),if_pos hk]
 rw [e,if_neg (by decide),if_neg (by decide),if_neg (by decide),if_pos rfl]
 show (List.range n).all (fun b => !(M a b && frcF M n V (rwsT t) i (rwD t i).l.toNat b && !frcF M n V (rwsT t) i (rwD t i).r.toNat b))=_
 have e2:(fun b => !(M a b && frcF M n V (rwsT t) i (rwD t i).l.toNat b && !frcF M n V (rwsT t) i (rwD t i).r.toNat b))=fun b => !(M a b && sF M n V t (rwD t i).l.toNat b && !sF M n V t (rwD t i).r.toNat b):=by
  funext b
  rw [frc_stable h _ (by omega) i (by omega),frc_stable h _ (by omega) i (by omega)]
 rw [e2]
theorem sF_no {i a:Nat} (h1:(rwD t i).k≠1) (h3:(rwD t i).k≠3) (h4:(rwD t i).k≠4) (h5:(rwD t i).k≠5):sF M n V t i a=false:=by
 rw [sF_un]
 have e:(rwsT t).kd i=1:=by show (if _ then _ else _)=_;rw [if_neg h1,if_neg h3,if_neg h4,if_neg h5]
 rw [e,if_neg (by decide),if_neg (by decide),if_neg (by decide),if_neg (by decide)]
def anyTo (l:List ByteArray) (s:ByteArray) (k:Nat):Bool:=(l.take k).any fun x=>decide (x=s)
theorem anyTo_zero (l:List ByteArray) (s:ByteArray):anyTo l s 0=false:=rfl
theorem anyTo_next {l:List ByteArray} {s:ByteArray} {k:Nat} (hk:k<l.length):anyTo l s (k+1)=(anyTo l s k || decide (l[k]=s)):=by
 unfold anyTo
 rw [List.take_succ_eq_append_getElem hk,List.any_append]
 simp
theorem anyTo_all (l:List ByteArray) (s:ByteArray):anyTo l s l.length=l.any fun x=>decide (x=s):=by
 unfold anyTo;rw [List.take_length]
def allTo (P:Nat→Bool) (k:Nat):Bool:=(List.range k).all P
theorem allTo_next (P:Nat→Bool) (k:Nat):allTo P (k+1)=(allTo P k && P k):=by
 unfold allTo
 rw [List.range_succ,List.all_append]
 simp
end
theorem sF_keep {m n:Md} {fl:List Int} (hb:BndP m n fl) (hG:Wd.Good m) (hN:Wd.Good n) {M P:Nat→Nat→Bool} (hM:IsO m.up M) (hP:IsO n.up P) (hF:∀ a,a<m.up.length→numF fl a<n.up.length) (t:List Nd) (i a:Nat) (ha:a<m.up.length) :
 sF M m.up.length (vl m) t i a=sF P n.up.length (vl n) t i (numF fl a) :=
 frc_keep hb hM hP (fun a b ha h=>good_lt hG ha h) (fun a ha c h=>good_lt hN (hF a ha) h) (rwsT t) (i+1) i a ha
end Go.Proofs.Ytoedidbbjnnpnaa.Wm

/-
  Bisimilar worlds: classes refined till nothing parts are the coarsest stable ones (plain).
-/
import Derived.Test.YtoedidbbjnnpnaaTH17
namespace Go.Proofs.Ytoedidbbjnnpnaa.Wm
open Wd (Md Rc Ed upd vl)
set_option linter.unusedVariables false
theorem filter_len_le {p q:Nat→Bool}:∀ (l:List Nat),(∀ x ∈ l,p x=true→q x=true)→(l.filter p).length≤(l.filter q).length
 | [],_=>Nat.le_refl _
 | x :: l,h=>by
  have ih:=filter_len_le l fun y hy=>h y (by simp [hy])
  have hx:=h x (by simp)
  rw [List.filter_cons,List.filter_cons]
  cases hp:p x
  ·cases hq:q x
   ·simpa using ih
   ·simp;omega
  ·rw [hx hp];simpa using ih
theorem filter_len_eq {p q:Nat→Bool}:∀ (l:List Nat),(∀ x ∈ l,p x=true→q x=true)→(l.filter p).length=(l.filter q).length→∀ x ∈ l,p x=q x
 | [],_,_,x,hx=>by cases hx
 | y :: l,h,he,x,hx=>by
  have hle:=filter_len_le l fun z hz=>h z (by simp [hz])
  have hy:=h y (by simp)
  rw [List.filter_cons,List.filter_cons] at he
  cases hp:p y
  ·cases hq:q y
   ·rw [hp,hq] at he
    rcases List.mem_cons.1 hx with rfl | hx
    ·rw [hp,hq]
    ·exact filter_len_eq l (fun z hz=>h z (by simp [hz])) (by simpa using he) x hx
   ·rw [hp,hq] at he
    simp at he
    omega
  ·rw [hp,hy hp] at he
   rcases List.mem_cons.1 hx with rfl | hx
   ·rw [hp,hy hp]
   ·exact filter_len_eq l (fun z hz=>h z (by simp [hz])) (by simpa using he) x hx
theorem finer_reps {E E':Nat→Nat→Bool} (hE:Eqv E) (hE':Eqv E') (h:∀ a b,E' a b=true→E a b=true) (n:Nat) :
 repsTo E n≤repsTo E' n∧(repsTo E n=repsTo E' n→∀ w,w<n→cnF E' w=cnF E w):=by
 have hr:∀ x,isRep E x=true→isRep E' x=true:=fun x hx=>isRep_iff.2 fun v hv=>by
  cases hb:E' v x
  ·rfl
  ·have:=h v x hb
   rw [isRep_iff.1 hx v hv] at this;cases this
 refine ⟨filter_len_le _ fun x _=>hr x,fun he w hw => ?_⟩
 have hs:∀ x,x<n→isRep E x=isRep E' x:=fun x hx=>filter_len_eq (List.range n) (fun x _=>hr x) he x (List.mem_range.2 hx)
 obtain ⟨h1,h2,h3⟩:=rep_spec hE' w
 have e:repF E' w=repF E w:=rep_unique hE (by rw [hs _ (by omega)];exact h3) (h _ _ h2)
 unfold cnF repsTo
 rw [e]
 congr 1
 refine List.filter_congr fun x hx => ?_
 have h4:=(rep_spec hE w).1
 exact (hs x (by have:=List.mem_range.1 hx;omega)).symm
structure Bis (m:Md) (B:Nat→Nat→Prop):Prop where
 lt:∀ a b,B a b→a<m.up.length∧b<m.up.length
 val:∀ a b,B a b→vl m a=vl m b
 to:∀ a b,B a b→∀ x,Rc m.up a x→∃ y,Rc m.up b y∧B x y
 back:∀ a b,B a b→∀ y,Rc m.up b y→∃ x,Rc m.up a x∧B x y
def Sees (m:Md) (cls:Nat→Nat) (a c:Nat):Prop:=∃ x,Rc m.up a x∧cls x=c
theorem bis_step {m:Md} {B:Nat→Nat→Prop} (hB:Bis m B) {cls:Nat→Nat} {P:Nat→Nat→Bool} (hE:Eqv (fineE cls P)) (hP:∀ a b,a<m.up.length→b<m.up.length→(∀ c,Sees m cls a c ↔ Sees m cls b c)→P a b=false)
 (h:∀ a b,B a b→cls a=cls b):∀ a b,B a b→cnF (fineE cls P) a=cnF (fineE cls P) b:=fun a b hab=>by
 rw [cn_eq hE]
 obtain ⟨h1,h2⟩:=hB.lt a b hab
 unfold fineE
 rw [hP a b h1 h2 fun c=>⟨fun ⟨x,hx,hc⟩ => ?_,fun ⟨y,hy,hc⟩ => ?_⟩,h a b hab]
 ·simp
 ·obtain ⟨y,hy,hxy⟩:=hB.to a b hab x hx
  exact ⟨y,hy,(h x y hxy).symm.trans hc⟩
 ·obtain ⟨x,hx,hxy⟩:=hB.back a b hab y hy
  exact ⟨x,hx,(h x y hxy).trans hc⟩
structure ClsP (m:Md) (cls:Nat→Nat):Prop where
 canon:∃ E,Eqv E∧∀ w,w<m.up.length→cls w=cnF E w
 val:∀ a b,a<m.up.length→b<m.up.length→cls a=cls b→vl m a=vl m b
 sees:∀ a b,a<m.up.length→b<m.up.length→cls a=cls b→∀ c,Sees m cls a c→Sees m cls b c
 coarse:∀ B,Bis m B→∀ a b,B a b→cls a=cls b
theorem ClsP.bis {m:Md} {cls:Nat→Nat} (h:ClsP m cls) (hlt:∀ a b,a<m.up.length→Rc m.up a b→b<m.up.length):Bis m fun a b=>(a<m.up.length∧b<m.up.length)∧cls a=cls b :=
 ⟨fun a b hab=>hab.1,fun a b hab=>h.val a b hab.1.1 hab.1.2 hab.2,fun a b hab x hx=>by
  obtain ⟨y,hy,e⟩:=h.sees a b hab.1.1 hab.1.2 hab.2 (cls x) ⟨x,hx,rfl⟩
  exact ⟨y,hy,⟨hlt a x hab.1.1 hx,hlt b y hab.1.2 hy⟩,e.symm⟩,fun a b hab y hy=>by
  obtain ⟨x,hx,e⟩:=h.sees b a hab.1.2 hab.1.1 hab.2.symm (cls y) ⟨y,hy,rfl⟩
  exact ⟨x,hx,⟨hlt a x hab.1.1 hx,hlt b y hab.1.2 hy⟩,e⟩⟩
theorem ClsP.one {m:Md} {c1 c2:Nat→Nat} (h1:ClsP m c1) (h2:ClsP m c2) (hlt:∀ a b,a<m.up.length→Rc m.up a b→b<m.up.length):∀ w,w<m.up.length→c1 w=c2 w:=by
 have hsame:∀ a b,a<m.up.length→b<m.up.length→(c1 a=c1 b ↔ c2 a=c2 b):=fun a b ha hb =>
  ⟨fun e=>h2.coarse _ (h1.bis hlt) a b ⟨⟨ha,hb⟩,e⟩,fun e=>h1.coarse _ (h2.bis hlt) a b ⟨⟨ha,hb⟩,e⟩⟩
 obtain ⟨E1,k1,e1⟩:=h1.canon
 obtain ⟨E2,k2,e2⟩:=h2.canon
 have hEE:∀ a b,a<m.up.length→b<m.up.length→E1 a b=E2 a b:=fun a b ha hb=>by
  rw [Bool.eq_iff_iff,← cn_eq k1,← cn_eq k2,← e1 a ha,← e1 b hb,← e2 a ha,← e2 b hb]
  exact hsame a b ha hb
 have hrep:∀ a,a<m.up.length→isRep E1 a=isRep E2 a:=fun a ha=>by
  rw [Bool.eq_iff_iff,isRep_iff,isRep_iff]
  exact ⟨fun h v hv=>by rw [← hEE v a (by omega) ha];exact h v hv,fun h v hv=>by rw [hEE v a (by omega) ha];exact h v hv⟩
 intro w hw
 rw [e1 w hw,e2 w hw]
 obtain ⟨q1,q2,q3⟩:=rep_spec k1 w
 have er:repF E1 w=repF E2 w:=rep_unique k2 (by rw [← hrep _ (by omega)];exact q3) (by rw [← hEE _ _ (by omega) hw];exact q2)
 unfold cnF repsTo
 rw [← er]
 congr 1
 exact List.filter_congr fun x hx=>hrep x (by have:=List.mem_range.1 hx;omega)
end Go.Proofs.Ytoedidbbjnnpnaa.Wm
/-
  The classes' own order: what a quotient's rows say (plain).
-/
namespace Go.Proofs.Ytoedidbbjnnpnaa.Wm
open Wd (Md Rc Ed upd vl)
set_option linter.unusedVariables false
def QEd (n:Nat) (u qu:List (List Int)) (cls:Nat→Nat):Prop:=∀ c d,Ed qu c d ↔ ∃ a b,a<n∧cls a=c∧Ed u a b∧cls b=d
noncomputable def upN (u:List (List Int)) (n a:Nat):Nat:=((List.range n).filter fun x=>@decide (Rc u a x) (Classical.propDecidable _)).length
theorem upN_lt {u:List (List Int)} {n a b:Nat} (hab:Rc u a b) (hne:a≠b) (ha:a<n) (anti:∀ a b,Rc u a b→Rc u b a→a=b):upN u n b<upN u n a:=by
 unfold upN
 refine filt_lt (x:=a) (fun x hx => ?_) ?_ ?_ _ (List.mem_range.2 ha)
 ·have:=@of_decide_eq_true _ (Classical.propDecidable _) hx
  exact @decide_eq_true _ (Classical.propDecidable _) (hab.trans this)
 ·exact @decide_eq_true _ (Classical.propDecidable _) (.refl a)
 ·exact @decide_eq_false _ (Classical.propDecidable _) fun h=>hne (anti a b hab h)
theorem upN_le {u:List (List Int)} {n a b:Nat} (hab:Rc u a b):upN u n b≤upN u n a:=by
 unfold upN
 refine filt_le (fun x hx => ?_) _
 have:=@of_decide_eq_true _ (Classical.propDecidable _) hx
 exact @decide_eq_true _ (Classical.propDecidable _) (hab.trans this)
section
variable {m:Md} {u qu:List (List Int)} {cls:Nat→Nat}
theorem q_rc (hc:ClsP m cls) (hlt:∀ a b,a<m.up.length→Rc m.up a b→b<m.up.length) (hu:∀ a b,a<m.up.length→(Rc u a b ↔ Rc m.up a b)) (hq:QEd m.up.length u qu cls) {c d:Nat} :
 Rc qu c d ↔ (c=d∧∀ a,a<m.up.length→cls a≠c)∨∃ a,a<m.up.length∧cls a=c∧Sees m cls a d:=by
 constructor
 ·intro h
  induction h with
  | refl c =>
   by_cases e:∃ a,a<m.up.length∧cls a=c
   ·obtain ⟨a,h1,h2⟩:=e
    exact Or.inr ⟨a,h1,h2,a,.refl a,h2⟩
   ·exact Or.inl ⟨rfl,fun a ha hca=>e ⟨a,ha,hca⟩⟩
  | step e _ ih =>
   obtain ⟨a,b,h1,h2,h3,h4⟩:=(hq _ _).1 e
   have hab:Rc m.up a b:=(hu a b h1).1 (.one h3)
   have hb:=hlt a b h1 hab
   rcases ih with ⟨h5,h6⟩ | ⟨a',h5,h6,h7⟩
   ·exact absurd h4 (h6 b hb)
   ·obtain ⟨y,h8,h9⟩:=hc.sees a' b h5 hb (h6.trans h4.symm) _ h7
    exact Or.inr ⟨a,h1,h2,y,hab.trans h8,h9⟩
 ·rintro (⟨h1,_⟩ | ⟨a,h1,h2,x,h3,h4⟩)
  ·rw [h1];exact .refl _
  ·have h5:Rc u a x:=(hu a x h1).2 h3
   have:∀ a x,Rc u a x→a<m.up.length→Rc qu (cls a) (cls x):=by
    intro a x h
    induction h with
    | refl a=>intro _;exact .refl _
    | step e h ih =>
     intro ha
     exact .step ((hq _ _).2 ⟨_,_,ha,rfl,e,rfl⟩) (ih (hlt _ _ ha ((hu _ _ ha).1 (.one e))))
   have:=this a x h5 h1
   rw [h2,h4] at this
   exact this
theorem q_anti (hc:ClsP m cls) (hlt:∀ a b,a<m.up.length→Rc m.up a b→b<m.up.length) (anti:∀ a b,Rc m.up a b→Rc m.up b a→a=b) {c d a b:Nat} (ha:a<m.up.length) (hb:b<m.up.length) (hca:cls a=c) (hdb:cls b=d) (h1:Sees m cls a d) (h2:Sees m cls b c):c=d:=by
 rcases Nat.lt_or_ge c d with hcd | hcd
 case inr =>
  rcases Nat.lt_or_ge d c with hdc | hdc
  case inr=>omega
  case inl =>
   exfalso
   have key:∀ k a,upN m.up m.up.length a≤k→a<m.up.length→cls a=c→False:=by
    intro k
    induction k with
    | zero =>
     intro a hk ha' hca'
     obtain ⟨y,hy1,hy2⟩:=hc.sees _ a ha ha' (hca.trans hca'.symm) d h1
     have hne:a≠y:=fun e=>by rw [e,hy2] at hca';omega
     have:=upN_lt hy1 hne ha' anti
     omega
    | succ k ih =>
     intro a hk ha' hca'
     obtain ⟨y,hy1,hy2⟩:=hc.sees _ a ha ha' (hca.trans hca'.symm) d h1
     have hne:a≠y:=fun e=>by rw [e,hy2] at hca';omega
     have hl:=upN_lt hy1 hne ha' anti
     have hyn:=hlt a y ha' hy1
     obtain ⟨z,hz1,hz2⟩:=hc.sees _ y hb hyn (hdb.trans hy2.symm) c h2
     have hl2:=upN_le (n:=m.up.length) hz1
     exact ih z (by omega) (hlt y z hyn hz1) hz2
   exact key _ a (Nat.le_refl _) ha hca
 case inl =>
  exfalso
  have key:∀ k a,upN m.up m.up.length a≤k→a<m.up.length→cls a=c→False:=by
   intro k
   induction k with
   | zero =>
    intro a hk ha' hca'
    obtain ⟨y,hy1,hy2⟩:=hc.sees _ a ha ha' (hca.trans hca'.symm) d h1
    have hne:a≠y:=fun e=>by rw [e,hy2] at hca';omega
    have:=upN_lt hy1 hne ha' anti
    omega
   | succ k ih =>
    intro a hk ha' hca'
    obtain ⟨y,hy1,hy2⟩:=hc.sees _ a ha ha' (hca.trans hca'.symm) d h1
    have hne:a≠y:=fun e=>by rw [e,hy2] at hca';omega
    have hl:=upN_lt hy1 hne ha' anti
    have hyn:=hlt a y ha' hy1
    obtain ⟨z,hz1,hz2⟩:=hc.sees _ y hb hyn (hdb.trans hy2.symm) c h2
    have hl2:=upN_le (n:=m.up.length) hz1
    exact ih z (by omega) (hlt y z hyn hz1) hz2
  exact key _ a (Nat.le_refl _) ha hca
end
end Go.Proofs.Ytoedidbbjnnpnaa.Wm
/-
  A quotient's own classes are its worlds; its map is a bounded morphism (plain).
-/
namespace Go.Proofs.Ytoedidbbjnnpnaa.Wm
open Wd (Md Rc Ed upd vl)
set_option linter.unusedVariables false
structure IsQ (m q:Md) (cls:Nat→Nat):Prop where
 ex:∀ c,c<q.up.length ↔ ∃ a,a<m.up.length∧cls a=c
 rc:∀ a c,a<m.up.length→(Rc q.up (cls a) c ↔ Sees m cls a c)
 val:∀ a,a<m.up.length→vl q (cls a)=vl m a
theorem eqv_eq:Eqv (fun a b=>a == b) :=
 ⟨fun a=>by simp,fun a b h=>by simp at h ⊢;exact h.symm,fun a b c h k=>by simp at h k ⊢;exact h.trans k⟩
theorem cn_id (w:Nat):cnF (fun a b=>a == b) w=w:=by
 have hr:∀ x,isRep (fun a b:Nat=>a == b) x=true:=fun x=>isRep_iff.2 fun v hv=>by simp;omega
 rw [cn_new (hr w)]
 unfold repsTo
 rw [List.filter_eq_self.2 fun x _=>hr x]
 simp
theorem IsQ.cls {m q:Md} {cls:Nat→Nat} (h:IsQ m q cls) (hc:ClsP m cls) (hlt:∀ a b,a<m.up.length→Rc m.up a b→b<m.up.length):ClsP q (fun w=>w):=by
 refine ⟨⟨_,eqv_eq,fun w _=>(cn_id w).symm⟩,fun a b _ _ e=>by rw [show a=b from e],fun a b _ _ e c hs=>by rw [← show a=b from e];exact hs,fun B hB c d hcd => ?_⟩
 obtain ⟨k1,k2⟩:=hB.lt c d hcd
 obtain ⟨a,ha,rfl⟩:=(h.ex c).1 k1
 obtain ⟨b,hb,rfl⟩:=(h.ex d).1 k2
 refine hc.coarse (fun x y=>(x<m.up.length∧y<m.up.length)∧B (cls x) (cls y)) ⟨fun x y hxy=>hxy.1,fun x y hxy => ?_,fun x y hxy z hz => ?_,fun x y hxy z hz => ?_⟩ a b ⟨⟨ha,hb⟩,hcd⟩
 ·rw [← h.val x hxy.1.1,← h.val y hxy.1.2]
  exact hB.val _ _ hxy.2
 ·obtain ⟨e,h1,h2⟩:=hB.to _ _ hxy.2 (cls z) ((h.rc x _ hxy.1.1).2 ⟨z,hz,rfl⟩)
  obtain ⟨t,h3,h4⟩:=(h.rc y _ hxy.1.2).1 h1
  exact ⟨t,h3,⟨hlt x z hxy.1.1 hz,hlt y t hxy.1.2 h3⟩,by rw [h4];exact h2⟩
 ·obtain ⟨e,h1,h2⟩:=hB.back _ _ hxy.2 (cls z) ((h.rc y _ hxy.1.2).2 ⟨z,hz,rfl⟩)
  obtain ⟨t,h3,h4⟩:=(h.rc x _ hxy.1.1).1 h1
  exact ⟨t,h3,⟨hlt x t hxy.1.1 h3,hlt y z hxy.1.2 hz⟩,by rw [h4];exact h2⟩
theorem IsQ.bnd {m q:Md} {cls:Nat→Nat} (h:IsQ m q cls) {fl:List Int} (hf:∀ a,a<m.up.length→numF fl a=cls a) (hlt:∀ a b,a<m.up.length→Rc m.up a b→b<m.up.length):BndP m q fl:=fun a ha=>by
 rw [hf a ha]
 refine ⟨(h.val a ha).symm,fun c => ?_⟩
 rw [h.rc a c ha]
 constructor
 ·rintro ⟨b,h1,h2⟩
  rw [hf b (hlt a b ha h1)] at h2
  exact ⟨b,h1,h2⟩
 ·rintro ⟨b,h1,h2⟩
  exact ⟨b,h1,by rw [hf b (hlt a b ha h1)];exact h2⟩
end Go.Proofs.Ytoedidbbjnnpnaa.Wm
/-
  A bounded morphism keeps what is forced (plain).
-/
namespace Go.Proofs.Ytoedidbbjnnpnaa.Wm
open Wd (Md Rc Ed upd vl)
set_option linter.unusedVariables false
structure Rws where
 kd:Nat→Nat
 nm:Nat→ByteArray
 lf:Nat→Nat
 rt:Nat→Nat
def frcF (M:Nat→Nat→Bool) (n:Nat) (V:Nat→List ByteArray) (r:Rws):Nat→Nat→Nat→Bool
 | 0,_,_=>false
 | k+1,i,a =>
  if r.kd i=0 then (V a).any fun s=>decide (s=r.nm i)
  else if r.kd i=2 then frcF M n V r k (r.lf i) a && frcF M n V r k (r.rt i) a
  else if r.kd i=3 then frcF M n V r k (r.lf i) a || frcF M n V r k (r.rt i) a
  else if r.kd i=4 then (List.range n).all fun b => !(M a b && frcF M n V r k (r.lf i) b && !frcF M n V r k (r.rt i) b)
  else false
theorem frc_keep {m n:Md} {fl:List Int} (hb:BndP m n fl) {M N:Nat→Nat→Bool} (hM:∀ a b,M a b=true ↔ Rc m.up a b) (hN:∀ a b,N a b=true ↔ Rc n.up a b)
 (hm:∀ a b,a<m.up.length→Rc m.up a b→b<m.up.length) (hn:∀ a,a<m.up.length→∀ c,Rc n.up (numF fl a) c→c<n.up.length) (r:Rws) :
 ∀ k i a,a<m.up.length→frcF M m.up.length (vl m) r k i a=frcF N n.up.length (vl n) r k i (numF fl a):=by
 intro k
 induction k with
 | zero=>intro i a _;rfl
 | succ k ih =>
  intro i a ha
  obtain ⟨hv,hs⟩:=hb a ha
  rw [frcF,frcF]
  split
  ·rw [hv]
  ·split
   ·rw [ih _ a ha,ih _ a ha]
   ·split
    ·rw [ih _ a ha,ih _ a ha]
    ·split
     ·rw [Bool.eq_iff_iff,List.all_eq_true,List.all_eq_true]
      constructor
      ·intro h c hc
       by_cases hN2:N (numF fl a) c=true
       ·obtain ⟨b,hb1,hb2⟩:=(hs c).2 ((hN _ _).1 hN2)
        have hbm:=hm a b ha hb1
        have h2:=h b (List.mem_range.2 hbm)
        rw [(hM a b).2 hb1,ih _ b hbm,ih _ b hbm,hb2] at h2
        rw [hN2];exact h2
       ·have e:N (numF fl a) c=false:=by simpa using hN2
        rw [e];rfl
      ·intro h b hb'
       by_cases hM2:M a b=true
       ·have hab:=(hM _ _).1 hM2
        have hbm:=hm a b ha hab
        have hc:=(hs (numF fl b)).1 ⟨b,hab,rfl⟩
        have h2:=h (numF fl b) (List.mem_range.2 (hn a ha _ hc))
        rw [(hN _ _).2 hc,← ih _ b hbm,← ih _ b hbm] at h2
        rw [hM2];exact h2
       ·have e:M a b=false:=by simpa using hM2
        rw [e];rfl
     ·rfl
end Go.Proofs.Ytoedidbbjnnpnaa.Wm
/-
  parted's memory: the least worlds of each class, row by row, and the numbers told so far. No condition.
-/
namespace Go.Proofs.Ytoedidbbjnnpnaa.Wm
open Go.RowKit Go.Maps
open Wd (upd)
set_option linter.unusedSimpArgs false
set_option linter.unusedVariables false
structure PM (w:World) (B G n:Nat) (V:Nat→Value) (F:Nat→List Nat) (fv:Value) (fl:List Nat):Prop where
 tab:Rw w G n 27 V
 row:∀ c,c<n→OwnI B w (V c) (F c)
 fin:OwnI B w fv fl
 dis:∀ c d,c<n→d<n→c≠d→∀ b,(V c).ownBlock=some b→(V d).ownBlock≠some b
 dfn:∀ c,c<n→∀ b,(V c).ownBlock=some b→fv.ownBlock≠some b
section
variable {w w':World} {B G n:Nat} {V:Nat→Value} {F:Nat→List Nat} {fv fv':Value} {fl:List Nat}
theorem PM.later (h:PM w B G n V F fv fl) (hb:Below w.heap.size w w'):PM w' B G n V F fv fl :=
 ⟨h.tab.keep (hb.block G h.tab.lt),fun c hc=>own_later (h.row c hc) hb,own_later h.fin hb,h.dis,h.dfn⟩
theorem own_lt2 {e:TypeId} {v:Value} {xs:List Value} {k:Nat} (h:w.ownsRow B e 1 v n xs) {b:Nat} (hb:v.ownBlock=some b):b<w.heap.size:=(own_blk h hb).2.1
theorem rw_grow {v:Value} {k:Nat} {xs:List Value} (ht:Rw w G n 27 V) (h1:w.ownsRow B 3 1 v k xs) (hg:w.grownBy w' v.ownBlock):Rw w' G n 27 V:=by
 refine ht.keep (hg.block G ht.lt fun e => ?_)
 obtain ⟨_,_,cur,hc⟩:=own_blk h1 e.symm
 have h2:=ht.symm.trans hc
 injection h2 with h3
 injection h3 with _ h4
 exact absurd h4 (by decide)
theorem PM.growF (h:PM w B G n V F fv fl) {x:Nat} {xs:List Value} (ho:w'.ownsRow B 3 1 fv' (fl.length+1) (intsV fl ++ [.int .i64 (x:Int)])) (hg:w.grownBy w' fv.ownBlock) (hn:fv'.ownBlock=fv.ownBlock∨fv'.ownBlock=some w.heap.size):PM w' B G n V F fv' (fl ++ [x]):=by
 refine ⟨rw_grow h.tab h.fin hg,fun c hc=>own_kp (h.row c hc) fun k cs hk hcs he=>hg.block k (lt_of_block hcs) fun e => ?_,?_,h.dis,fun c hc b hb e => ?_⟩
 ·exact h.dfn c hc k he e.symm
 ·unfold OwnI
  rw [List.length_append,List.length_singleton]
  have e:intsV (fl ++ [x])=intsV fl ++ [.int .i64 (x:Int)]:=by simp [intsV]
  rw [e]
  exact ho
 ·rcases hn with h1 | h1
  ·exact h.dfn c hc b hb (h1.symm.trans e)
  ·have h2:=(own_blk (h.row c hc) hb).2.1
   rw [h1] at e
   have:=Option.some.inj e
   omega
theorem PM.growR (h:PM w B G n V F fv fl) {c x:Nat} (hc:c<n) (hG:B≤w.heap.size) {v':Value} (ho:w'.ownsRow B 3 1 v' ((F c).length+1) (intsV (F c) ++ [.int .i64 (x:Int)])) (hg:w.grownBy w' (V c).ownBlock) (hn:v'.ownBlock=(V c).ownBlock∨v'.ownBlock=some w.heap.size) :
 PM (w'.setCell ⟨G,c,none⟩ v') B G n (upd V c v') (upd F c (F c ++ [x])) fv fl:=by
 have ht:=rw_grow h.tab (h.row c hc) hg
 have hset:∀ k,k≠G→(w'.setCell ⟨G,c,none⟩ v').heap[k]?=w'.heap[k]?:=fun k hk=>Below.heap_setCell w' ⟨G,c,none⟩ v' k hk
 have hint:∀ {W:World} {v:Value} {m:Nat} {xs:List Value} {k:Nat},W.ownsRow B 3 1 v m xs→v.ownBlock=some k→Rw W G n 27 V→k≠G:=fun {W v m xs k} h1 h2 h3 e=>by
  obtain ⟨_,_,cur,h4⟩:=own_blk h1 h2
  rw [e] at h4
  have h5:=h3.symm.trans h4
  injection h5 with h6
  injection h6 with _ h7
  exact absurd h7 (by decide)
 have hfin:w'.ownsRow B 3 1 fv fl.length (intsV fl):=own_kp h.fin fun k cs hk hcs he=>hg.block k (lt_of_block hcs) fun e=>h.dfn c hc k e.symm he
 have hrow:∀ d,d<n→d≠c→w'.ownsRow B 3 1 (V d) (F d).length (intsV (F d)):=fun d hd hdc=>own_kp (h.row d hd) fun k cs hk hcs he=>hg.block k (lt_of_block hcs) fun e=>h.dis c d hc hd (fun e2=>hdc e2.symm) k e.symm he
 have hbk:∀ {v:Value} {m:Nat} {xs:List Value},w'.ownsRow B 3 1 v m xs→(w'.setCell ⟨G,c,none⟩ v').ownsRow B 3 1 v m xs:=fun {v m xs} h1=>own_kp h1 fun k cs hk hcs he=>hset k (hint h1 he ht)
 have hfresh:∀ b,v'.ownBlock=some b→∀ d,d<n→d≠c→(V d).ownBlock≠some b:=fun b hb d hd hdc e=>by
  rcases hn with h1 | h1
  ·exact h.dis c d hc hd (fun e2=>hdc e2.symm) b (h1.symm.trans hb) e
  ·have h2:=(own_blk (h.row d hd) e).2.1
   rw [h1] at hb
   have:=Option.some.inj hb
   omega
 refine ⟨ht.set c v',fun d hd => ?_,hbk hfin,fun d e hd he hde b hb => ?_,fun d hd b hb e => ?_⟩
 ·by_cases e:d=c
  ·subst e
   rw [Wd.upd_same,Wd.upd_same]
   unfold OwnI
   rw [List.length_append,List.length_singleton]
   have e2:intsV (F d ++ [x])=intsV (F d) ++ [.int .i64 (x:Int)]:=by simp [intsV]
   rw [e2]
   exact hbk ho
  ·rw [Wd.upd_other _ _ _ e,Wd.upd_other _ _ _ e]
   exact hbk (hrow d hd e)
 ·by_cases e1:d=c
  ·subst e1
   rw [Wd.upd_same] at hb
   rw [Wd.upd_other _ _ _ (fun e2=>hde e2.symm)]
   exact hfresh b hb e he (fun e2=>hde e2.symm)
  ·rw [Wd.upd_other _ _ _ e1] at hb
   by_cases e2:e=c
   ·subst e2
    rw [Wd.upd_same]
    intro e3
    exact hfresh b e3 d hd e1 hb
   ·rw [Wd.upd_other _ _ _ e2]
    exact h.dis d e hd he hde b hb
 ·by_cases e1:d=c
  ·subst e1
   rw [Wd.upd_same] at hb
   rcases hn with h1 | h1
   ·exact h.dfn d hd b (h1.symm.trans hb) e
   ·have h2:=(own_blk h.fin e).2.1
    rw [h1] at hb
    have:=Option.some.inj hb
    omega
  ·rw [Wd.upd_other _ _ _ e1] at hb
   exact h.dfn d hd b hb e
end
end Go.Proofs.Ytoedidbbjnnpnaa.Wm
/-
  parted's function value: is a least world one that w does not part from? No condition.
-/
namespace Go.Proofs.Ytoedidbbjnnpnaa.Wm
open Go.RowKit Go.Maps
open Wd (upd)
set_option linter.unusedSimpArgs false
set_option linter.unusedVariables false
theorem cf_part1:Cf 84:=fun _ _=>by kernel_rfl
set_option maxHeartbeats 1000000 in
theorem part1_any (w:World) {L n k b3 b8:Nat} {P:Nat→Nat→Bool} {fv:Value} (hO:Ord w L n fv P) (hL:L≤w.heap.size) (h3:Cl w b3 #[fv] 90) (h8:Cl w b8 #[.int .i64 (k:Int)] 3) {x:Int} (hx:0≤x∧x<(n:Int)) (hk:k<n) :
 Calls Try.prog 84 #[.int .i64 x,.pointer (some ⟨b3,0,none⟩),.pointer (some ⟨b8,0,none⟩)] w fun e w'=>e=.returned (.bool (!P x.toNat k))∧Below w.heap.size w w':=by
 obtain ⟨f,cs,rfl,hcf,hc⟩:=hO
 obtain ⟨y,rfl⟩:=Int.eq_ofNat_of_zero_le hx.1
 have hy:y<n:=by omega
 have KP:=show Hid _ from hc w y k (Below.refl _ _) hy hk
 have HCF:=show Hid (Cf f) from hcf
 have HE:=show Hid ((y:Int).toNat=y) from Int.toNat_natCast y
 have c3:w.cell? ⟨b3,0,none⟩=some (.func (.func f) #[] cs.toArray):=h3.cell 0
 have c8:w.cell? ⟨b8,0,none⟩=some (.int .i64 (k:Int)):=h8.cell 0
 rw [HE.out]
 clear hc hcf h3 h8 hx HE
 go_enter Try.func84,Try.ntmps84
 go_wp2_with (refine wpList_callV rfl f _ [.tmp 6,.tmp 7] _ rfl [.int .i64 (y:Int),.int .i64 (k:Int)] cs rfl rfl HCF.out ?_)
 refine Calls.mono KP.out ?_
 rintro e w2 ⟨rfl,hb⟩
 refine ⟨_,rfl,?_⟩
 have HB:=show Hid (Below w.heap.size w w2) from hb
 clear hb KP
 generalize hz:P y k=z at *
 have HZ:=show Hid (P y k=z) from hz
 clear hz
 go_wp2_with fail
 go_ret
 exact ⟨ret_bool (by rw [HZ.out]),HB.out⟩
theorem rw_madeL (w:World) (n:Nat):Rw (w.alloc (.cells (madeCells #[.slice none 0 0] n) 27)) w.heap.size n 27 (fun _=>.slice none 0 0):=by
 unfold Rw
 rw [heap_alloc_new]
 congr 2
 apply Array.ext'
 rw [toList_madeCells_one]
 simp [List.map_const']
end Go.Proofs.Ytoedidbbjnnpnaa.Wm

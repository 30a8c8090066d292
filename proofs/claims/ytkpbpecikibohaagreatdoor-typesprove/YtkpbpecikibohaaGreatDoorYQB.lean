import Derived.Test.YtkpbpecikibohaaGreatDoorYQA
import Derived.Test.YtkpbpecikibohaaGreatDoorFG2
set_option linter.unusedSimpArgs false
namespace Go.Proofs.YtkpbpecikibohaaGreatDoor.Ty
open Fm (Nd)
mutual
def jI:Tm->Tr
 | .mk k n o f s=>
  let r:=IB s
  let z:=Tr.var e0
  if k=1 then .var n else if k=2 then .lam n (r.getD 0 z) else if k=3 then .app (r.getD 0 z) (r.getD 1 z) else if k=4 then .pair (r.getD 0 z) (r.getD 1 z)
  else if k=5 then .fst (r.getD 0 z) else if k=6 then .snd (r.getD 0 z) else if k=7 then .inl (r.getD 0 z) else if k=8 then .inr (r.getD 0 z)
  else if k=9 then .cas n o (r.getD 0 z) (r.getD 1 z) (r.getD 2 z) else if k=10 then .iN (r.getD 0 z) else if k=11 then .the f (r.getD 0 z) else .lt n (r.getD 0 z) (r.getD 1 z)
def IB:List Tm->List Tr
 | []=>[]
 | x :: r=>jI x :: IB r
end
theorem Rp:∀ y:Tr,jI y.tm=y:=by
 intro y
 induction y <;> simp_all [Tr.tm,jI,IB]
theorem FE (s:List Tm) (m:Nat):eu s m m=m:=by
 cases s with
 | nil=>rw[eu]
 | cons x r=>rw[eu,if_pos rfl]
theorem d9 {x:Tm} {s:Nat} (hx:∀ m,1<=m->dw x m=min s m) (r:List Tm) {m k:Nat} (hk:k<=m):eu (x :: r) m k=eu r m (min (k+s) m):=by
 rw[eu]
 by_cases e:k=m
 ·rw[if_pos e,show min (k+s) m=m by omega,FE,e]
 ·rw[if_neg e,hx (m - k) (by omega),show k+min s (m - k)=min (k+s) m by omega]
theorem IC:∀ (y:Tr) (m:Nat),1<=m->dw y.tm m=min y.size m:=by
 intro y
 induction y with
 | var n=>intro m hm;simp only[Tr.tm,dw,Tr.size];rw[eu];omega
 | lam n a ha=>intro m hm;simp only[Tr.tm,dw,Tr.size];rw[d9 ha _ hm,eu];omega
 | app a b ha hb=>intro m hm;simp only[Tr.tm,dw,Tr.size];rw[d9 ha _ hm,d9 hb _ (by omega),eu];omega
 | pair a b ha hb=>intro m hm;simp only[Tr.tm,dw,Tr.size];rw[d9 ha _ hm,d9 hb _ (by omega),eu];omega
 | fst a ha=>intro m hm;simp only[Tr.tm,dw,Tr.size];rw[d9 ha _ hm,eu];omega
 | snd a ha=>intro m hm;simp only[Tr.tm,dw,Tr.size];rw[d9 ha _ hm,eu];omega
 | inl a ha=>intro m hm;simp only[Tr.tm,dw,Tr.size];rw[d9 ha _ hm,eu];omega
 | inr a ha=>intro m hm;simp only[Tr.tm,dw,Tr.size];rw[d9 ha _ hm,eu];omega
 | cas n o a b c ha hb hc=>intro m hm;simp only[Tr.tm,dw,Tr.size];rw[d9 ha _ hm,d9 hb _ (by omega),d9 hc _ (by omega),eu];omega
 | iN a ha=>intro m hm;simp only[Tr.tm,dw,Tr.size];rw[d9 ha _ hm,eu];omega
 | the f a ha=>intro m hm;simp only[Tr.tm,dw,Tr.size];rw[d9 ha _ hm,eu];omega
 | lt n a b ha hb=>intro m hm;simp only[Tr.tm,dw,Tr.size];rw[d9 ha _ hm,d9 hb _ (by omega),eu];omega
theorem ze {x:Tm} (h:kM x=0):x=(jI x).tm/\(jI x).size<=65536:=by
 unfold kM at h
 split at h
 ·cases h
 ·rename_i hn
  split at h
  ·rename_i hs
   obtain⟨y,rfl⟩:=AQ _ x (Nat.lt_succ_self _) hs
   rw[Rp]
   refine⟨rfl,?_⟩
   have:=IC y 65537 (by decide)
   omega
  ·cases h
abbrev Hs:=List (ByteArray × Int)
def xX (g:Env):Hs->Env
 | []=>g
 | h :: r=>xX (upd g h.1 h.2) r
theorem vM (g:Env):∀ (l:Hs) (h:ByteArray × Int),xX g (l ++ [h])=upd (xX g l) h.1 h.2
 | [],_=>rfl
 | _ :: r,h=>vM _ r h
def env (l:Hs):Env:=xX (fun _=>none) l
def fK (t:List Nd) (l0:List Int) (hs:Hs) (x:Tm):Int:=if (l0 ++ hs.map (·.2)).any (fun i => !Fm.has t i) then 31 else kM x
def An.way:An->List Int
 | .ok _=>[]
 | .no _ w=>w
def An.err:An->Int
 | .ok _=>0
 | .no e _=>e
def An.val:An->Int
 | .ok f=>f
 | .no _ _=>0
def pR (t:List Nd) (hs:Hs) (x:Tm) (id:Int):List Int × Int :=
 if fK t [id] hs x≠0 then ([],fK t [id] hs x) else ((aS t (jI x) (env hs) [] id).way,(aS t (jI x) (env hs) [] id).err)
def xB (t:List Nd) (hs:Hs) (x:Tm):Int × Int :=
 if fK t [] hs x≠0 then (0,fK t [] hs x) else ((told t (jI x) (env hs) []).val,(told t (jI x) (env hs) []).err)
theorem bind_ok {A:An} {F:Int->An} {x:Int} (h:A.bind F=.ok x):∃ f,A=.ok f/\F f=.ok x:=by
 cases A with
 | ok f=>exact⟨f,rfl,h⟩
 | no e w=>cases h
theorem mM {t:List Nd} {w:List Int} {k f:Int} {F:Nd->An} {x:Int} (h:lK t w k f F=.ok x):(ay t f).k=k/\F (ay t f)=.ok x:=by
 unfold lK at h
 split at h
 ·rename_i hk;exact⟨hk,h⟩
 ·cases h
def lQ (A:An):Prop:=∃ x,A=.ok x
theorem IE {e:Int} {w:List Int}:¬ lQ (.no e w):=fun ⟨_,h⟩=>by cases h
theorem lS {A:An} {F:Int->An}:lQ (A.bind F) ↔ ∃ f,A=.ok f/\lQ (F f):=by
 cases A with
 | ok f=>exact⟨fun h=>⟨f,rfl,h⟩,fun ⟨_,h,h2⟩=>by cases h;exact h2⟩
 | no e w=>exact⟨fun h=>absurd h IE,fun ⟨_,h,_⟩=>by cases h⟩
def qH (t:List Nd) (g:Env):Prop:=∀ s f,g s=some f->Fm.has t f=true
theorem qH.upd {t:List Nd} {g:Env} (h:qH t g) (s:ByteArray) {f:Int} (hf:Fm.has t f=true):qH t (upd g s f):=by
 intro r x hx
 unfold Ty.upd at hx
 split at hx
 ·cases hx;exact hf
 ·exact h r x hx
theorem jR {t:List Nd} (hO:Fm.Ok t) {f:Int} (h:(ay t f).k=3\/(ay t f).k=4\/(ay t f).k=5):Fm.has t (ay t f).l=true/\Fm.has t (ay t f).r=true:=by
 unfold ay at h |-
 split at h
 ·rename_i hh
  rw[if_pos hh]
  have hh2:=Fm.dJ.1 hh
  have hlt:f.toNat<t.length:=by omega
  have hg:t.getD f.toNat Fm.z=t[f.toNat]:=by rw[List.getD_eq_getElem?_getD,List.getElem?_eq_getElem hlt];rfl
  rw[hg] at h |-
  have hc:=hO.Cj f.toNat hlt
  unfold Fm.check at hc
  split at hc
  ·rename_i hs
   unfold Fm.shaped at hs
   rw[if_neg (by omega),if_neg (by omega)] at hs
   have hj:Fm.jn t[f.toNat].k=true:=by unfold Fm.jn;simp;omega
   rw[if_pos hj] at hs
   simp only[Bool.and_eq_true] at hs
   have up:∀ i,Fm.has (t.take f.toNat) i=true->Fm.has t i=true:=fun i hi=>by
    have:=Fm.dJ.1 hi
    simp at this
    exact Fm.dJ.2 ⟨this.1,by omega⟩
   exact⟨up _ hs.1.2,up _ hs.2⟩
  ·cases hc
 ·exfalso
  have:Fm.z.k=0:=rfl
  omega
theorem xY {t:List Nd} (hO:Fm.Ok t):∀ (y:Tr) (g:Env) (w:List Int) (a:Int),qH t g->told t y g w=.ok a->Fm.has t a=true:=by
 intro y
 induction y with
 | var n=>
  intro g w a hg h
  have h':(match g n with | some x=>An.ok x | none=>.no 131 w)=.ok a:=h
  cases hx:g n with
  | none=>rw[hx] at h';cases h'
  | some x=>rw[hx] at h';cases h';exact hg n _ hx
 | lam n x _=>intro g w a hg h;cases h
 | app x z hx _=>
  intro g w a hg h
  obtain⟨f,hf,h⟩:=bind_ok h
  obtain⟨hk,h⟩:=mM h
  obtain⟨_,_,h⟩:=bind_ok h
  cases h
  exact(jR hO (Or.inr (Or.inr hk))).2
 | pair x z _ _=>intro g w a hg h;cases h
 | fst x hx=>
  intro g w a hg h
  obtain⟨f,hf,h⟩:=bind_ok h
  obtain⟨hk,h⟩:=mM h
  cases h
  exact(jR hO (Or.inl hk)).1
 | snd x hx=>
  intro g w a hg h
  obtain⟨f,hf,h⟩:=bind_ok h
  obtain⟨hk,h⟩:=mM h
  cases h
  exact(jR hO (Or.inl hk)).2
 | inl x _=>intro g w a hg h;cases h
 | inr x _=>intro g w a hg h;cases h
 | cas n o x z u _ hz _=>
  intro g w a hg h
  obtain⟨f,hf,h⟩:=bind_ok h
  obtain⟨hk,h⟩:=mM h
  obtain⟨p,hp,h⟩:=bind_ok h
  obtain⟨q,hq,h⟩:=bind_ok h
  by_cases e:p=q
  ·rw[if_pos e] at h
   cases h
   exact hz _ _ _ (hg.upd n (jR hO (Or.inr (Or.inl hk))).1) hp
  ·rw[if_neg e] at h
   cases h
 | iN x _=>intro g w a hg h;cases h
 | the f x _=>
  intro g w a hg h
  have h':(if Fm.has t f then (aS t x g (w ++ [0]) f).bind fun _=>An.ok f else .no 31 w)=.ok a:=h
  split at h'
  ·rename_i hh
   obtain⟨_,_,h2⟩:=bind_ok h'
   cases h2
   exact hh
  ·cases h'
 | lt n x z hx hz=>
  intro g w a hg h
  obtain⟨f,hf,h⟩:=bind_ok h
  exact hz _ _ _ (hg.upd n (hx _ _ _ hg hf)) h
def Sub (g g':Env):Prop:=∀ s f,g s=some f->g' s=some f
theorem Sub.upd {g g':Env} (h:Sub g g') (s:ByteArray) (f:Int):Sub (Ty.upd g s f) (Ty.upd g' s f):=by
 intro r x hx
 unfold Ty.upd at hx |-
 split at hx
 ·rename_i e;rw[if_pos e];exact hx
 ·rename_i e;rw[if_neg e];exact h r x hx
def ac5 (A A':An):Prop:=A=A'\/∃ w,A=.no 131 w
theorem Gz {t:List Nd}:∀ (hs:Hs) {g:Env},qH t g->(∀ h ∈ hs,Fm.has t h.2=true)->qH t (xX g hs)
 | [],_,h,_=>h
 | h0 :: r,_,h,hh=>Gz r (h.upd h0.1 (hh h0 (by simp))) fun x hx=>hh x (by simp[hx])
theorem Rq (t:List Nd):∀ (y:Tr) (g:Env) (w:List Int),(∀ v,told t y g w≠.no 0 v)/\∀ id v,aS t y g w id≠.no 0 v:=by
 have nb:∀ {A:An} {F:Int->An},(∀ v,A≠.no 0 v)->(∀ x v,F x≠.no 0 v)->∀ v,A.bind F≠.no 0 v:=fun {A F} hA hF v=>by
  cases A with
  | ok x=>exact hF x v
  | no e w=>exact fun h=>hA v h
 have nj:∀ {w:List Int} {k f:Int} {F:Nd->An},(∀ d v,F d≠.no 0 v)->∀ v,lK t w k f F≠.no 0 v:=fun {w k f F} hF v=>by
  unfold lK
  split
  ·exact hF _ v
  ·exact fun h=>by cases h
 have nc:∀ {A:An} {w:List Int} {id:Int},(∀ v,A≠.no 0 v)->∀ v,(A.bind fun f=>if f=id then An.ok 0 else .no 130 w)≠.no 0 v:=fun {A w id} hA=>nb hA fun x v=>by
  split
  ·exact fun h=>by cases h
  ·exact fun h=>by cases h
 have no:∀ (x:Int) (v:List Int),An.ok x≠.no 0 v:=fun x v h=>by cases h
 intro y
 induction y with
 | var n=>
  intro g w
  have h:∀ v,told t (.var n) g w≠.no 0 v:=fun v=>by
   show(match g n with | some x=>An.ok x | none=>.no 131 w)≠_
   cases g n with
   | none=>exact fun h=>by cases h
   | some x=>exact fun h=>by cases h
  exact⟨h,fun id=>nc h⟩
 | lam n x hx=>intro g w;exact⟨(fun v h=>by cases h),fun id=>nj fun d=>(hx _ _).2 _⟩
 | app x z hx hz=>
  intro g w
  have h:∀ v,told t (.app x z) g w≠.no 0 v:=nb (hx _ _).1 fun f=>nj fun d=>nb ((hz _ _).2 _) fun _=>no _
  exact⟨h,fun id=>nc h⟩
 | pair x z hx hz=>intro g w;exact⟨(fun v h=>by cases h),fun id=>nj fun d=>nb ((hx _ _).2 _) fun _=>(hz _ _).2 _⟩
 | fst x hx=>
  intro g w
  have h:∀ v,told t (.fst x) g w≠.no 0 v:=nb (hx _ _).1 fun f=>nj fun d=>no _
  exact⟨h,fun id=>nc h⟩
 | snd x hx=>
  intro g w
  have h:∀ v,told t (.snd x) g w≠.no 0 v:=nb (hx _ _).1 fun f=>nj fun d=>no _
  exact⟨h,fun id=>nc h⟩
 | inl x hx=>intro g w;exact⟨(fun v h=>by cases h),fun id=>nj fun d=>(hx _ _).2 _⟩
 | inr x hx=>intro g w;exact⟨(fun v h=>by cases h),fun id=>nj fun d=>(hx _ _).2 _⟩
 | cas n o x z u hx hz hu=>
  intro g w
  exact⟨nb (hx _ _).1 fun f=>nj fun d=>nb (hz _ _).1 fun p=>nb (hu _ _).1 fun q v=>(by
   split
   ·exact fun h=>by cases h
   ·exact fun h=>by cases h),fun id=>nb (hx _ _).1 fun f=>nj fun d=>nb ((hz _ _).2 _) fun _=>(hu _ _).2 _⟩
 | iN x hx=>intro g w;exact⟨(fun v h=>by cases h),fun id=>nb (hx _ _).1 fun f=>nj fun _=>no _⟩
 | the f x hx=>
  intro g w
  have h:∀ v,told t (.the f x) g w≠.no 0 v:=fun v=>by
   show(if Fm.has t f then (aS t x g (w ++ [0]) f).bind fun _=>An.ok f else .no 31 w)≠_
   split
   ·exact nb ((hx _ _).2 _) (fun _=>no _) v
   ·exact fun h=>by cases h
  exact⟨h,fun id=>nc h⟩
 | lt n x z hx hz=>intro g w;exact⟨nb (hx _ _).1 fun f=>(hz _ _).1,fun id=>nb (hx _ _).1 fun f=>(hz _ _).2 _⟩
theorem NZ {A:An} (h:∀ w,A≠.no 0 w):A.err=0 ↔ lQ A:=by
 cases A with
 | ok x=>exact⟨fun _=>⟨x,rfl⟩,fun _=>rfl⟩
 | no e w=>exact⟨fun he=>by cases he;exact absurd rfl (h w),fun hk=>absurd hk IE⟩
end Go.Proofs.YtkpbpecikibohaaGreatDoor.Ty

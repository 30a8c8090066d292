import Derived.Test.YtkpbpecikibohaaGreatDoorKG7
import Derived.Test.YtkpbpecikibohaaGreatDoorYQB
import Derived.Test.YtkpbpecikibohaaGreatDoorZRel
set_option linter.unusedSimpArgs false
namespace Go.Proofs.YtkpbpecikibohaaGreatDoor
open Fm (Nd)
open Bt.Bs (Ok wd)
def zQ (t:List Nd) (s:SQ):Int:=if (kK t s 4096).err≠0 then -1 else if (kK t s 4096).pv=true then 1 else 0
theorem Td {t:List Nd} (hO:Fm.Ok t) {s:SQ} (hr:Ok s.1) (hq:eH t.length s):(zQ t s=1->Val t s)/\(zQ t s=0->Ref t s):=by
 have hp:=rR 4096 4096 ⟨t,[],0⟩ s ⟨hO,fun x hx=>(by cases hx),fun i j x y h=>(by simp at h),fun i x h=>(by simp at h)⟩ (Nat.zero_le _) hq hr
 have e:kK t s 4096=if (dI 4096 4096 ⟨t,[],0⟩ s).2.1≠0 then ⟨(dI 4096 4096 ⟨t,[],0⟩ s).2.1,t,false,[],0⟩ else ⟨0,(dI 4096 4096 ⟨t,[],0⟩ s).1.t,((dI 4096 4096 ⟨t,[],0⟩ s).1.st.getD (dI 4096 4096 ⟨t,[],0⟩ s).2.2 fF).pv,(dI 4096 4096 ⟨t,[],0⟩ s).1.st,(dI 4096 4096 ⟨t,[],0⟩ s).1.vs⟩:=by
  unfold kK
  rw[if_neg (show ¬ eP t s.1 s.2≠0 by rw[iy hr hq];simp),if_neg (show ¬ ((4096:Int)<1\/(4096:Int)<4096) by omega)]
  rfl
 unfold zQ
 rw[e]
 clear e
 generalize dI 4096 4096 ⟨t,[],0⟩ s=q at *
 by_cases he:q.2.1≠0
 ·rw[if_pos he]
  refine⟨fun h => ?_,fun h => ?_⟩
  ·rw[if_pos he] at h
   cases h
  ·rw[if_pos he] at h
   cases h
 ·rw[if_neg he]
  have he:q.2.1=0:=by simpa using he
  obtain⟨y,hy,hys,htr⟩:=hp.at he
  simp only
  rw[if_neg (by simp),getD_some hy]
  have hE:Ext t q.1.t:=hp.ext
  cases hpv:y.pv
  ·refine⟨fun h=>(by simp at h),fun _ => ?_⟩
   have:=htr.no hpv
   rw[hys] at this
   exact this.back hE
  ·refine⟨fun _ => ?_,fun h=>(by simp at h)⟩
   have:=htr.yes hpv
   rw[hys] at this
   exact this.back hO hp.gd.ok hq hE
def Er (x:Int):Prop:=x=0\/x=30\/x=110
def QM (B:Nat) (d:lX):Prop:=∀ R s,Gd R->R.vs<=B->eH R.t.length s->Ok s.1->Er (d R s).2.1
theorem Ig {t:List Nd} {s:SQ} (hr:Ok s.1) (hq:eH t.length s) {ru main:Int} (hf:findF t s.1 s.2 ru main=true):Er (aO t s.1 s.2 ru main).2.2:=by
 rw[Ec (iy hr hq) hf]
 split
 ·exact Or.inr (Or.inl rfl)
 ·exact Or.inl rfl
theorem EY {B:Nat} {d:lX} (hd:qD B d) (he:QM B d):∀ (ps:List SQ) (R:Rs) (x:Stp),Gd R->R.vs<=B->(∀ p ∈ ps,eH R.t.length p/\Ok p.1)->Er (fE d R x ps).2.1
 | [],_,_,_,_,_=>Or.inl rfl
 | p :: ps,R,x,hG,hB,hp=>by
  have h0:=hp p (List.mem_cons_self ..)
  have h1:=hd R p hG hB h0.1 h0.2
  have h2:=he R p hG hB h0.1 h0.2
  unfold fE
  split
  ·exact h2
  ·split
   ·exact Or.inl rfl
   ·exact EY hd he ps _ _ h1.gd h1.vs.2 fun p' hp'=>⟨jr h1.ext (hp p' (List.mem_cons_of_mem _ hp')).1,(hp p' (List.mem_cons_of_mem _ hp')).2⟩
theorem Nq {B:Nat} {d:lX} (hd:qD B d) (hde:QM B d) {t0:List Nd} (hO:Fm.Ok t0) {s:SQ} (hr:Ok s.1) (hq:eH t0.length s):∀ (cs:List (Int × Int)) (R:Rs) (ks:List Nat),Gd R->R.vs<=B->Ext t0 R.t->(∀ c ∈ cs,c ∈ fT t0 s.1 s.2)->Er (lg d s R cs ks).2.1
 | [],_,_,_,_,_,_=>Or.inl rfl
 | c :: cs,R,ks,hG,hB,hE,hcs=>by
  have hcm:=hcs c (List.mem_cons_self ..)
  have hq1:=jr hE hq
  have rH:=EJ hO hr (mh.2 hq) hcm
  have hf0:=Ar hO hr hcm
  have hf:findF R.t s.1 s.2 c.1 c.2=true:=by
   have hh:Fm.has t0 c.2=true:=by
    unfold findF at hf0
    simp only[Bool.and_eq_true] at hf0
    exact hf0.1.1
   have hh:=Fm.dJ.1 hh
   obtain⟨n,hn⟩:∃ n:Nat,c.2=n:=⟨c.2.toNat,by omega⟩
   rw[hn] at hf0 |-
   exact yE hO hE (by omega) hf0
  unfold lg
  have her:=Ig hr hq1 hf
  by_cases he:(aO R.t s.1 s.2 c.1 c.2).2.2≠0
  ·rw[if_pos he]
   exact her
  rw[if_neg he]
  have he:(aO R.t s.1 s.2 c.1 c.2).2.2=0:=by simpa using he
  obtain⟨iL,hE1,hp,hm⟩:=nE hG.ok hr hq1 hf he
  obtain⟨i,hmain,hi,hpc,_⟩:=uf hG.ok hr (iy hr hq1) hf he
  generalize hpl:(aO R.t s.1 s.2 c.1 c.2).1=l at *
  generalize (aO R.t s.1 s.2 c.1 c.2).2.1=t1 at *
  obtain⟨p,ps,rfl⟩:∃ p ps,l=p :: ps:=Au rH hpc
  rw[show(p :: ps).headD (Bt.Bs.zero,0)=p from rfl]
  have hG1:=hG.grow iL hE1
  have h0:=hp p (List.mem_cons_self ..)
  have h1:=hd ⟨t1,R.st,R.vs⟩ p hG1 hB h0.1 h0.2
  have h2:=hde ⟨t1,R.st,R.vs⟩ p hG1 hB h0.1 h0.2
  generalize ug:d ⟨t1,R.st,R.vs⟩ p=q at *
  by_cases he2:q.2.1≠0
  ·rw[if_pos he2]
   exact h2
  rw[if_neg he2]
  split
  ·exact EY hd hde _ _ _ h1.gd h1.vs.2 fun p' hp'=>⟨jr h1.ext (hp p' hp').1,(hp p' hp').2⟩
  ·exact Nq hd hde hO hr hq cs q.1 _ h1.gd h1.vs.2 (hE.trans (hE1.trans h1.ext)) fun c' hc'=>hcs c' (List.mem_cons_of_mem _ hc')
theorem WJ {B:Nat} {d:lX} (hd:qD B d) (hde:QM B d) {R:Rs} {s:SQ} (hG:Gd R) (hB:R.vs<=B) (hq:eH R.t.length s) (hr:Ok s.1):Er (jF d R s).2.1:=by
 unfold jF
 rw[if_neg (by rw[iy hr hq];simp)]
 by_cases iw:(aZ R.t s.1 s.2).1=14
 ·rw[if_pos iw]
  exact Nq hd hde hG.ok hr hq _ R [] hG hB (Ext.refl _) fun c h=>h
 rw[if_neg iw]
 have hf:=uR hG.ok hr (iy hr hq) iw
 by_cases he:(aO R.t s.1 s.2 (aZ R.t s.1 s.2).1 (aZ R.t s.1 s.2).2).2.2≠0
 ·rw[if_pos he]
  exact Ig hr hq hf
 rw[if_neg he]
 have he:(aO R.t s.1 s.2 (aZ R.t s.1 s.2).1 (aZ R.t s.1 s.2).2).2.2=0:=by simpa using he
 obtain⟨iL,hE1,hp,_⟩:=nE hG.ok hr hq hf he
 exact EY hd hde _ ⟨_,R.st,R.vs⟩ _ (hG.grow iL hE1) hB hp
theorem Nr (B:Nat):∀ n,QM B (dI B n)
 | 0=>fun R s _ _ _ _=>by
  unfold dI
  cases look R.st s with
  | some p=>exact Or.inl rfl
  | none=>exact Or.inr (Or.inr rfl)
 | n+1=>fun R s hG hB hq hr=>by
  unfold dI
  cases look R.st s with
  | some p=>exact Or.inl rfl
  | none=>
   simp only
   by_cases hv:R.vs=B
   ·rw[if_pos hv]
    exact Or.inr (Or.inr rfl)
   rw[if_neg hv]
   have h1:=WJ (rR B n) (Nr B n) (R:=⟨R.t,R.st,R.vs+1⟩) (s:=s) ⟨hG.ok,hG.xQ,hG.one,hG.kid⟩ (by simp only;omega) hq hr
   generalize jF (dI B n) ⟨R.t,R.st,R.vs+1⟩ s=q at *
   split
   ·exact h1
   ·exact Or.inl rfl
theorem Te {t:List Nd} (hO:Fm.Ok t) {s:SQ} (hr:Ok s.1) (hq:eH t.length s) (hv:Val t s):((kK t s 4096).err=0/\(kK t s 4096).pv=true)\/(kK t s 4096).err=30\/(kK t s 4096).err=110:=by
 have he:Er (kK t s 4096).err:=by
  unfold kK
  rw[if_neg (show ¬ eP t s.1 s.2≠0 by rw[iy hr hq];simp),if_neg (show ¬ ((4096:Int)<1\/(4096:Int)<4096) by omega)]
  split
  ·exact Nr 4096 4096 ⟨t,[],0⟩ s ⟨hO,fun x hx=>(by cases hx),fun i j x y h=>(by simp at h),fun i x h=>(by simp at h)⟩ (Nat.zero_le _) hq hr
  ·exact Or.inl rfl
 rcases he with he | he | he
 ·refine Or.inl ⟨he,?_⟩
  cases hp:(kK t s 4096).pv with
  | true=>rfl
  | false=>
   have h0:zQ t s=0:=by
    unfold zQ
    rw[if_neg (by rw[he];simp),if_neg (by rw[hp];simp)]
   exact(G6 hv ((Td hO hr hq).2 h0)).elim
 ·exact Or.inr (Or.inl he)
 ·exact Or.inr (Or.inr he)
end Go.Proofs.YtkpbpecikibohaaGreatDoor
namespace Go.Proofs.YtkpbpecikibohaaGreatDoor.Ya
open Fm (Nd)
open Bt.Bs (Ok)
open Ty (Tm Hs Env An told aS upd lK lQ qH bind_ok mM lS jR xY xX env pR fK)
section
variable {M:Km} {t:List Nd} {F:M.W->Nat->Prop}
def EF (F:M.W->Nat->Prop) (a:M.W) (g:Env):Prop:=∀ s f,g s=some f->F a f.toNat
theorem EF.upd {a:M.W} {g:Env} (h:EF F a g) (s:ByteArray) {f:Int} (hf:F a f.toNat):EF F a (upd g s f):=by
 intro r x hx
 unfold Ty.upd at hx
 split at hx
 ·cases hx;exact hf
 ·exact h r x hx
theorem WK {f k:Int} (hk:(Ty.ay t f).k=k) (h2:2<=k):Fm.has t f=true:=by
 cases hh:Fm.has t f with
 | true=>rfl
 | false=>
  exfalso
  unfold Ty.ay at hk
  rw[hh,if_neg Bool.false_ne_true] at hk
  have:Fm.z.k=0:=rfl
  omega
theorem Ch (hF:Fo M t F) {f k:Int} (hk:(Ty.ay t f).k=k) (h2:2<=k) (a:M.W):F a f.toNat ↔ Cls M (Ty.ay t f) F a f.toNat:=by
 have hh:=Fm.dJ.1 (WK hk h2)
 have h1:=hF f.toNat (by omega) a
 rw[show((f.toNat:Nat):Int)=f by omega] at h1
 exact h1
theorem WL (hF:Fo M t F) {f:Int} (hk:(Ty.ay t f).k=2) (a:M.W) (h:F a f.toNat):False:=by
 have h1:=(Ch hF hk (by decide) a).1 h
 unfold Cls at h1
 rw[if_neg (by omega),if_pos hk] at h1
 exact h1
theorem EZ (hF:Fo M t F) {f:Int} (hk:(Ty.ay t f).k=3) (a:M.W):F a f.toNat ↔ F a (Ty.ay t f).l.toNat/\F a (Ty.ay t f).r.toNat:=by
 rw[Ch hF hk (by decide) a]
 unfold Cls
 rw[if_neg (by omega),if_neg (by omega),if_pos hk]
theorem Ci (hF:Fo M t F) {f:Int} (hk:(Ty.ay t f).k=4) (a:M.W):F a f.toNat ↔ F a (Ty.ay t f).l.toNat\/F a (Ty.ay t f).r.toNat:=by
 rw[Ch hF hk (by decide) a]
 unfold Cls
 rw[if_neg (by omega),if_neg (by omega),if_neg (by omega),if_pos hk]
theorem Ns (hF:Fo M t F) {f:Int} (hk:(Ty.ay t f).k=5) (a:M.W):F a f.toNat ↔ ∀ b,M.le a b->F b (Ty.ay t f).l.toNat->F b (Ty.ay t f).r.toNat:=by
 rw[Ch hF hk (by decide) a]
 unfold Cls
 rw[if_neg (by omega),if_neg (by omega),if_neg (by omega),if_neg (by omega)]
theorem EF.stay (hO:Fm.Ok t) (hF:Fo M t F) {a b:M.W} {g:Env} (hg:qH t g) (h:EF F a g) (hab:M.le a b):EF F b g:=fun s f hs=>by
 have hh:=Fm.dJ.1 (hg s f hs)
 exact hF.stay hO f.toNat (by omega) a b hab (h s f hs)
theorem uz {w:List Int} {k f:Int} {G:Nd->An} (h:lQ (lK t w k f G)):(Ty.ay t f).k=k/\lQ (G (Ty.ay t f)):=by
 obtain⟨x,hx⟩:=h
 obtain⟨h1,h2⟩:=mM hx
 exact⟨h1,x,h2⟩
theorem wM {A:An} {id:Int} {w:List Int} (h:lQ (A.bind fun f=>if f=id then .ok 0 else .no 130 w)):A=.ok id:=by
 obtain⟨f,hf,h2⟩:=lS.1 h
 by_cases e:f=id
 ·rw[hf,e]
 ·rw[if_neg e] at h2
  exact absurd h2 Ty.IE
theorem sound (hO:Fm.Ok t) (hF:Fo M t F):∀ (y:Ty.Tr) (a:M.W) (g:Env) (w:List Int),qH t g->EF F a g->(∀ f,told t y g w=.ok f->F a f.toNat)/\∀ id,lQ (aS t y g w id)->F a id.toNat:=by
 intro y
 induction y with
 | var n=>
  intro a g w hg hE
  have h:∀ f,told t (.var n) g w=.ok f->F a f.toNat:=fun f h=>by
   have h':(match g n with | some x=>An.ok x | none=>.no 131 w)=.ok f:=h
   cases hx:g n with
   | none=>rw[hx] at h';cases h'
   | some x=>rw[hx] at h';cases h';exact hE n _ hx
  exact⟨h,fun id hi=>h id (wM hi)⟩
 | lam n x hx=>
  intro a g w hg hE
  refine⟨fun f h=>(by cases h),fun id hi => ?_⟩
  obtain⟨hk,h2⟩:=uz (show lQ (lK t w 5 id fun d=>aS t x (upd g n d.l) (w ++ [0]) d.r) from hi)
  refine(Ns hF hk a).2 fun b hab hl => ?_
  exact(hx b _ _ (hg.upd n (jR hO (Or.inr (Or.inr hk))).1) ((hE.stay hO hF hg hab).upd n hl)).2 _ h2
 | app x z hx hz=>
  intro a g w hg hE
  have h:∀ f,told t (.app x z) g w=.ok f->F a f.toNat:=fun f h=>by
   obtain⟨p,hp,h⟩:=bind_ok h
   obtain⟨hk,h⟩:=mM h
   obtain⟨q,hq,h⟩:=bind_ok h
   cases h
   exact(Ns hF hk a).1 ((hx a _ _ hg hE).1 p hp) a (M.rf a) ((hz a _ _ hg hE).2 _ ⟨q,hq⟩)
  exact⟨h,fun id hi=>h id (wM hi)⟩
 | pair x z hx hz=>
  intro a g w hg hE
  refine⟨fun f h=>(by cases h),fun id hi => ?_⟩
  obtain⟨hk,h2⟩:=uz (show lQ (lK t w 3 id fun d=>(aS t x g (w ++ [0]) d.l).bind fun _=>aS t z g (w ++ [1]) d.r) from hi)
  obtain⟨q,hq,h3⟩:=lS.1 h2
  exact(EZ hF hk a).2 ⟨(hx a _ _ hg hE).2 _ ⟨q,hq⟩,(hz a _ _ hg hE).2 _ h3⟩
 | fst x hx=>
  intro a g w hg hE
  have h:∀ f,told t (.fst x) g w=.ok f->F a f.toNat:=fun f h=>by
   obtain⟨p,hp,h⟩:=bind_ok h
   obtain⟨hk,h⟩:=mM h
   cases h
   exact((EZ hF hk a).1 ((hx a _ _ hg hE).1 p hp)).1
  exact⟨h,fun id hi=>h id (wM hi)⟩
 | snd x hx=>
  intro a g w hg hE
  have h:∀ f,told t (.snd x) g w=.ok f->F a f.toNat:=fun f h=>by
   obtain⟨p,hp,h⟩:=bind_ok h
   obtain⟨hk,h⟩:=mM h
   cases h
   exact((EZ hF hk a).1 ((hx a _ _ hg hE).1 p hp)).2
  exact⟨h,fun id hi=>h id (wM hi)⟩
 | inl x hx=>
  intro a g w hg hE
  refine⟨fun f h=>(by cases h),fun id hi => ?_⟩
  obtain⟨hk,h2⟩:=uz (show lQ (lK t w 4 id fun d=>aS t x g (w ++ [0]) d.l) from hi)
  exact(Ci hF hk a).2 (Or.inl ((hx a _ _ hg hE).2 _ h2))
 | inr x hx=>
  intro a g w hg hE
  refine⟨fun f h=>(by cases h),fun id hi => ?_⟩
  obtain⟨hk,h2⟩:=uz (show lQ (lK t w 4 id fun d=>aS t x g (w ++ [0]) d.r) from hi)
  exact(Ci hF hk a).2 (Or.inr ((hx a _ _ hg hE).2 _ h2))
 | cas n o x z u hx hz hu=>
  intro a g w hg hE
  refine⟨fun f h => ?_,fun id hi => ?_⟩
  ·obtain⟨p,hp,h⟩:=bind_ok h
   obtain⟨hk,h⟩:=mM h
   obtain⟨q,hq,h⟩:=bind_ok h
   obtain⟨r,hr,h⟩:=bind_ok h
   have hn:=jR hO (Or.inr (Or.inl hk))
   by_cases e:q=r
   ·rw[if_pos e] at h
    cases h
    subst e
    rcases(Ci hF hk a).1 ((hx a _ _ hg hE).1 p hp) with hl | hl
    ·exact(hz a _ _ (hg.upd n hn.1) (hE.upd n hl)).1 _ hq
    ·exact(hu a _ _ (hg.upd o hn.2) (hE.upd o hl)).1 _ hr
   ·rw[if_neg e] at h
    cases h
  ·obtain⟨p,hp,h⟩:=lS.1 (show lQ ((told t x g (w ++ [0])).bind fun f=>lK t w 4 f fun d=>(aS t z (upd g n d.l) (w ++ [1]) id).bind fun _=>aS t u (upd g o d.r) (w ++ [2]) id) from hi)
   obtain⟨hk,h⟩:=uz h
   obtain⟨q,hq,h⟩:=lS.1 h
   have hn:=jR hO (Or.inr (Or.inl hk))
   rcases(Ci hF hk a).1 ((hx a _ _ hg hE).1 p hp) with hl | hl
   ·exact(hz a _ _ (hg.upd n hn.1) (hE.upd n hl)).2 _ ⟨q,hq⟩
   ·exact(hu a _ _ (hg.upd o hn.2) (hE.upd o hl)).2 _ h
 | iN x hx=>
  intro a g w hg hE
  refine⟨fun f h=>(by cases h),fun id hi => ?_⟩
  obtain⟨p,hp,h⟩:=lS.1 (show lQ ((told t x g (w ++ [0])).bind fun f=>lK t w 2 f fun _=>.ok 0) from hi)
  obtain⟨hk,_⟩:=uz h
  exact(WL hF hk a ((hx a _ _ hg hE).1 p hp)).elim
 | the f x hx=>
  intro a g w hg hE
  have h:∀ f',told t (.the f x) g w=.ok f'->F a f'.toNat:=fun f' h=>by
   have h':(if Fm.has t f then (aS t x g (w ++ [0]) f).bind fun _=>An.ok f else .no 31 w)=.ok f':=h
   split at h'
   ·obtain⟨q,hq,h2⟩:=bind_ok h'
    cases h2
    exact(hx a _ _ hg hE).2 _ ⟨q,hq⟩
   ·cases h'
  exact⟨h,fun id hi=>h id (wM hi)⟩
 | lt n x z hx hz=>
  intro a g w hg hE
  refine⟨fun f h => ?_,fun id hi => ?_⟩
  ·obtain⟨p,hp,h⟩:=bind_ok h
   exact(hz a _ _ (hg.upd n (xY hO _ _ _ _ hg hp)) (hE.upd n ((hx a _ _ hg hE).1 p hp))).1 _ h
  ·obtain⟨p,hp,h⟩:=lS.1 (show lQ ((told t x g (w ++ [0])).bind fun f=>aS t z (upd g n f) (w ++ [1]) id) from hi)
   exact(hz a _ _ (hg.upd n (xY hO _ _ _ _ hg hp)) (hE.upd n ((hx a _ _ hg hE).1 p hp))).2 _ h
theorem Ih {a:M.W}:∀ (hs:Hs) {g:Env},EF F a g->(∀ h ∈ hs,F a h.2.toNat)->EF F a (xX g hs)
 | [],_,h,_=>h
 | h0 :: r,_,h,hh=>Ih r (h.upd h0.1 (hh h0 (by simp))) fun x hx=>hh x (by simp[hx])
end
def kE (r:List Nat) (hs:Hs):List Nat:=hs.foldl (fun r h=>Bt.Bs.put r h.2.toNat) r
theorem zR:∀ (hs:Hs) {r:List Nat},Ok r->Ok (kE r hs)
 | [],_,h=>h
 | _ :: hs,_,h=>zR hs (Bt.Bs.jy h _)
theorem Nt {M:Km} {F:M.W->Nat->Prop} {a:M.W}:∀ (hs:Hs) {r:List Nat},Ok r->(∀ h ∈ hs,h.2.toNat<1024)->ff F a (kE r hs)->ff F a r/\∀ h ∈ hs,F a h.2.toNat
 | [],_,_,_,h=>⟨h,fun _ hx=>by cases hx⟩
 | h0 :: hs,r,hr,hl,h=>by
  obtain⟨h1,h2⟩:=Nt hs (Bt.Bs.jy hr h0.2.toNat) (fun x hx=>hl x (List.mem_cons_of_mem _ hx)) h
  have h3:=(fM hr (hl h0 (List.mem_cons_self ..))).1 h1
  refine⟨h3.1,fun x hx => ?_⟩
  rcases List.mem_cons.1 hx with rfl | hx
  ·exact h3.2
  ·exact h2 x hx
theorem Ii {n:Nat} {g:Int} (hn:n<=1024):∀ (hs:Hs) {r:List Nat},Ok r->(∀ h ∈ hs,h.2.toNat<n)->eH n (r,g)->eH n (kE r hs,g)
 | [],_,_,_,h=>h
 | h0 :: hs,r,hr,hl,h=>Ii hn hs (Bt.Bs.jy hr _) (fun x hx=>hl x (List.mem_cons_of_mem _ hx)) (jL hr (by have:=hl h0 (List.mem_cons_self ..);omega) (hl h0 (List.mem_cons_self ..)) h)
theorem P9 {n:Nat} {g:Int} (h:0<=g/\g<n):eH n (Bt.Bs.zero,g):=⟨(fun m _ hh=>by rw[Bt.Bs.Cw] at hh;cases hh),h⟩
theorem Nu {t:List Nd} (hO:Fm.Ok t) {hs:Hs} {x:Tm} {id:Int} (h:(pR t hs x id).2=0):(∀ h ∈ hs,Fm.has t h.2=true)/\eH t.length (kE Bt.Bs.zero hs,id)/\Val t (kE Bt.Bs.zero hs,id):=by
 unfold pR at h
 by_cases h0:fK t [id] hs x≠0
 ·rw[if_pos h0] at h
  exact absurd h h0
 rw[if_neg h0] at h
 have h0:fK t [id] hs x=0:=by simpa using h0
 have hc:lQ (aS t (Ty.jI x) (env hs) [] id):=(Ty.NZ ((Ty.Rq t (Ty.jI x) (env hs) []).2 id)).1 h
 have hall:∀ i ∈ id :: hs.map (fun q:ByteArray × Int=>q.2),Fm.has t i=true:=fun i hi=>by
  unfold fK at h0
  split at h0
  ·cases h0
  ·rename_i hn
   cases hh:Fm.has t i with
   | true=>rfl
   | false=>
    exfalso
    apply hn
    rw[List.any_eq_true]
    exact⟨i,hi,by rw[hh];rfl⟩
 have hid:=Fm.dJ.1 (hall id (List.mem_cons_self ..))
 have hh:∀ h ∈ hs,Fm.has t h.2=true:=fun q hq=>hall _ (List.mem_cons_of_mem _ (List.mem_map_of_mem hq))
 have hlen:=hO.len
 have hn:∀ h ∈ hs,h.2.toNat<t.length:=fun q hq=>by have:=Fm.dJ.1 (hh q hq);omega
 refine⟨hh,Ii hlen hs Bt.Bs.fH hn (P9 ⟨by omega,by omega⟩),fun M F hF a MH => ?_⟩
 obtain⟨_,h2⟩:=Nt hs Bt.Bs.fH (fun q hq=>by have:=hn q hq;omega) MH
 exact(sound hO hF (Ty.jI x) a (env hs) [] (Ty.Gz hs (fun s f h=>by cases h) hh) (Ih hs (fun s f h=>by cases h) h2)).2 id hc
end Go.Proofs.YtkpbpecikibohaaGreatDoor.Ya
namespace Go.Proofs.YtkpbpecikibohaaGreatDoor
open Go.RowKit
section
variable {P:Program} {ops:Array Oper} {Q:Exit->Act->World->Prop} {md:Region.Mode}
structure QN (aM:List (Option Tmp)) (needs:List (List Nat)) (a0:Act) (R:Nat->Value->Prop) (S:(Nat->Bool)->Act->World->Prop) (listed:Array Bool) (a:Act) (w:World):Prop where
 s:S (fun j=>listed.getD j false) a w
 shut:∀ j,listed.getD j false=true->∀ k ∈ needs.getD j [],listed.getD k false=true
 out:mX aM a0 a
 got:∀ j,listed.getD j false=true->∃ v,Got a (aM.getD j none) v/\R j v
theorem Ca {a0:Act} (aM:List (Option Tmp)) (needs:List (List Nat)) (hc:lC md ops aM needs a0.tmps.size=true) (R:Nat->Value->Prop) (S:(Nat->Bool)->Act->World->Prop)
 (step:∀ i,i<ops.size->∀ (done:Nat->Bool) a w,S done a w->done i=false->(∀ j ∈ needs.getD i [],done j=true)->(∀ j,i ∈ needs.getD j []->done j=false)->mX aM a0 a->(∀ j ∈ needs.getD i [],∃ v,Got a (aM.getD j none) v/\R j v) ->
  wpOp P ops Q i (fun a' w'=>∃ v,a'=a.put (aM.getD i none) v/\R i v/\S (fun j=>j == i || done j) a' w') a w)
 (fin:∀ (vs:Nat->Value) (done:Nat->Bool) (w:World),(∀ i,i<ops.size->done i=true)->S done (bn aM vs 0 a0) w->(∀ i,i<ops.size->R i (vs i))->Q .normal (bn aM vs 0 a0) w) :
 ∀ (fuel:Nat) (listed:Array Bool) (a:Act) (w:World),listed.size=ops.size->((List.range ops.size).countP fun j => !(listed.getD j false))<=fuel->QN aM needs a0 R S listed a w->wpAny P md ops Q fuel listed a w:=by
 simp only[lC,Bool.and_eq_true,decide_eq_true_eq,List.all_eq_true,List.mem_range] at hc
 obtain⟨⟨⟨hd,hnd⟩,hlt⟩,hrest⟩:=hc
 have hnd:=lV _ hnd
 have hdl:aM.length=ops.size:=by rw[<- hd];simp
 have hdi:∀ i o,ops[i]?=some o->aM.getD i none=o.dst:=fun i o ho=>by
  rw[<- hd]
  simp[List.getD,ho]
 have pX:∀ i t,aM[i]?=some (some t)->t<a0.tmps.size:=fun i t h=>hlt t (iQ.2 (List.mem_of_getElem? h))
 have hfin:∀ listed a w,listed.size=ops.size->QN aM needs a0 R S listed a w->(∀ j,j<ops.size->listed.getD j false=true)->Q .normal a w:=by
  intro listed a w hls hI hall
  have hch:∀ j,∃ v,j<ops.size->Got a (aM.getD j none) v/\R j v:=fun j=>by
   by_cases hj:j<ops.size
   ·obtain⟨v,hv⟩:=hI.got j (hall j hj)
    exact⟨v,fun _=>hv⟩
   ·exact⟨undef,fun h=>absurd h hj⟩
  obtain⟨vs,hvs⟩:=Classical.axiomOfChoice hch
  have e:a=bn aM vs 0 a0:=by
   have e1:a.tmps=(bn aM vs 0 a0).tmps:=by
    apply Array.ext_getElem?
    intro t
    by_cases ht:t ∈ jT aM
    ·obtain⟨i,hi⟩:=List.getElem?_of_mem (iQ.1 ht)
     have hil:i<ops.size:=by rw[<- hdl];exact(List.getElem?_eq_some_iff.1 hi).1
     rw[pW aM vs 0 a0 hnd i t hi (pX i t hi),Nat.zero_add]
     have hg:=(hvs i hil).1
     have hgd:aM.getD i none=some t:=by simp[List.getD,hi]
     rw[hgd] at hg
     exact hg
    ·rw[hI.out.out t ht,oh aM vs 0 a0 t ht]
   have e2:a.defers=(bn aM vs 0 a0).defers:=by rw[mR,hI.out.df]
   cases a
   cases hp:bn aM vs 0 a0
   rw[hp] at e1 e2
   simp at e1 e2
   rw[e1,e2]
  have hs:=hI.s
  rw[e] at hs |-
  exact fin vs _ w hall hs (fun i hi=>(hvs i hi).2)
 have vU:∀ listed:Array Bool,listed.size=ops.size->Region.ready md ops listed=[]->∀ j,j<ops.size->listed.getD j false=true:=by
  intro listed hls hr j
  induction j using Nat.strongRecOn with
  | ind j ih=>
   intro hj
   cases hb:listed.getD j false with
   | true=>rfl
   | false=>
    exfalso
    have hjl:j<listed.size:=by omega
    obtain⟨o,ho⟩:∃ o,ops[j]?=some o:=⟨ops[j],by simp[hj]⟩
    have hm:j ∈ Region.ready md ops listed:=mem_ready.2 ⟨by simp[hjl] at hb |-;exact hb,o,ho,fun e he hbd=>by
     have h1:=hrest j hj
     rw[ho] at h1
     simp only[Bool.and_eq_true,Array.all_eq_true_iff_forall_mem] at h1
     have h2:=h1.1 e he
     simp only[hbd,Bool.not_true,Bool.false_or,decide_eq_true_eq] at h2
     exact ih e.on h2 (by omega)⟩
    rw[hr] at hm
    cases hm
 intro fuel
 induction fuel with
 | zero=>
  intro listed a w hls hcnt hI
  have hall:∀ j,j<ops.size->listed.getD j false=true:=fun j hj=>by
   have h0:=List.countP_eq_zero.1 (Nat.le_zero.1 hcnt) j (List.mem_range.2 hj)
   simpa using h0
  refine⟨?_,hfin listed a w hls hI hall⟩
  apply List.eq_nil_iff_forall_not_mem.2
  intro j hj
  obtain⟨h1,o,ho,_⟩:=mem_ready.1 hj
  have hj':j<ops.size:=(Array.getElem?_eq_some_iff.1 ho).1
  have h2:=hall j hj'
  have hjl:j<listed.size:=by omega
  simp[hjl] at h1 h2
  rw[h1] at h2
  cases h2
 | succ fuel ih=>
  intro listed a w hls hcnt hI
  refine⟨fun hr=>hfin listed a w hls hI (vU listed hls hr),fun i hi => ?_⟩
  obtain⟨h1,o,ho,hb⟩:=mem_ready.1 hi
  have hi':i<ops.size:=(Array.getElem?_eq_some_iff.1 ho).1
  have zw:∀ j ∈ needs.getD i [],∃ v,Got a (aM.getD j none) v/\R j v:=fun j hj=>by
   have h3:=hrest i hi'
   rw[ho] at h3
   simp only[Bool.and_eq_true,List.all_eq_true] at h3
   have h4:=h3.2 j hj
   rw[Array.any_eq_true'] at h4
   obtain⟨e,he,hbe⟩:=h4
   simp only[Bool.and_eq_true,beq_iff_eq] at hbe
   have:=hb e he hbe.1
   rw[hbe.2] at this
   exact hI.got j this
  have vV:i<listed.size:=by omega
  have hi0:listed.getD i false=false:=by simp[vV] at h1 |-;exact h1
  have uM:∀ j ∈ needs.getD i [],listed.getD j false=true:=fun j hj=>by
   have h3:=hrest i hi'
   rw[ho] at h3
   simp only[Bool.and_eq_true,List.all_eq_true] at h3
   have h4:=h3.2 j hj
   rw[Array.any_eq_true'] at h4
   obtain⟨e,he,hbe⟩:=h4
   simp only[Bool.and_eq_true,beq_iff_eq] at hbe
   have:=hb e he hbe.1
   rw[hbe.2] at this
   exact this
  have hdn:(fun j=>(listed.setIfInBounds i true).getD j false)=fun j=>j == i || listed.getD j false:=by
   funext j
   by_cases e:j=i
   ·subst e
    simp[vV]
   ·rw[getD_set_ne false (fun e'=>e e'.symm)]
    simp[e]
  have hno:∀ j,i ∈ needs.getD j []->listed.getD j false=false:=fun j hj=>by
   cases hb2:listed.getD j false with
   | false=>rfl
   | true=>
    have:=hI.shut j hb2 i hj
    rw[hi0] at this
    cases this
  refine wpOp_mono (fun a' w' h => ?_) (step i hi' (fun j=>listed.getD j false) a w hI.s hi0 uM hno hI.out zw)
  obtain⟨v,rfl,hR,hS⟩:=h
  have hdo:=hdi i o ho
  refine ih _ _ _ (by simp[hls]) ?_ ⟨by rw[hdn];exact hS,fun j hj k hk => ?_,⟨(put_defers _ _ _).trans hI.out.df,(uL _ _ _).trans hI.out.sz,fun t ht => ?_⟩,fun j hj => ?_⟩
  ·have:=countP_set hi' hls h1
   omega
  ·by_cases e:j=i
   ·subst e
    exact getD_set_true (uM k hk)
   ·rw[getD_set_ne false (fun e'=>e e'.symm)] at hj
    exact getD_set_true (hI.shut j hj k hk)
  ·rw[jU,hI.out.out t ht]
   intro e
   refine ht (iQ.2 ?_)
   rw[<- e]
   have hil:i<aM.length:=by omega
   rw[show aM.getD i none=aM[i] by simp[List.getD,hil]]
   exact List.getElem_mem hil
  ·by_cases e:j=i
   ·subst e
    refine⟨v,?_,hR⟩
    cases hd':aM.getD j none with
    | none=>trivial
    | some t=>
     have hjt:aM[j]?=some (some t):=by
      have hil:j<aM.length:=by omega
      simp[List.getD,hil] at hd'
      simp[hil,hd']
     exact rD _ _ (by rw[hI.out.sz];exact pX j t hjt)
   ·rw[getD_set_ne false (fun e'=>e e'.symm)] at hj
    obtain⟨u,hu,L8⟩:=hI.got j hj
    refine⟨u,?_,L8⟩
    cases hd':aM.getD j none with
    | none=>trivial
    | some t=>
     rw[hd'] at hu
     have hjt:aM[j]?=some (some t):=by
      rcases Nat.lt_or_ge j aM.length with h | h
      ·simp[List.getD,h] at hd'
       simp[h,hd']
      ·simp[List.getD,List.getElem?_eq_none h] at hd'
     show(a.put (aM.getD i none) v).tmps[t]?=some u
     rw[jU]
     ·exact hu
     ·intro e2
      have hit:aM[i]?=some (some t):=by
       have hil:i<aM.length:=by omega
       simp[List.getD,hil] at e2
       simp[hil,e2]
      exact e (sH aM hnd j i t hjt hit)
theorem Cb {id:Nat} {a0:Act} {w:World} (hm:P.follows .mixedOrders=true) (aM:List (Option Tmp)) (needs:List (List Nat)) (hc:lC .any ops aM needs a0.tmps.size=true) (R:Nat->Value->Prop) (S:(Nat->Bool)->Act->World->Prop)
 (h0:S (fun _=>false) a0 w.drew)
 (step:∀ i,i<ops.size->∀ (done:Nat->Bool) a w,S done a w->done i=false->(∀ j ∈ needs.getD i [],done j=true)->(∀ j,i ∈ needs.getD j []->done j=false)->mX aM a0 a->(∀ j ∈ needs.getD i [],∃ v,Got a (aM.getD j none) v/\R j v) ->
  wpOp P ops Q i (fun a' w'=>∃ v,a'=a.put (aM.getD i none) v/\R i v/\S (fun j=>j == i || done j) a' w') a w)
 (fin:∀ (vs:Nat->Value) (done:Nat->Bool) (w:World),(∀ i,i<ops.size->done i=true)->S done (bn aM vs 0 a0) w->(∀ i,i<ops.size->R i (vs i))->Q .normal (bn aM vs 0 a0) w):(Code.region id ops true).wp P Q a0 w:=by
 have hf:(fun j=>(Array.replicate ops.size false).getD j false)=fun _=>false:=by
  funext j
  rcases Nat.lt_or_ge j ops.size with h | h
  ·simp[h]
  ·simp[h]
 refine wp_region_any hm (Ca aM needs hc R S step fin _ _ _ _ (by simp) ?_ ⟨by rw[hf];exact h0,fun j hj => ?_,⟨rfl,rfl,fun _ _=>rfl⟩,fun j hj => ?_⟩)
 ·refine Nat.le_trans List.countP_le_length ?_
  simp
 ·rw[show(Array.replicate ops.size false).getD j false=false from congrFun hf j] at hj
  cases hj
 ·rcases Nat.lt_or_ge j ops.size with h | h
  ·simp[h] at hj
  ·simp[h] at hj
end
end Go.Proofs.YtkpbpecikibohaaGreatDoor

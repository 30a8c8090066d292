import Derived.Test.YtkpbpecikibohaaGreatDoorZT1
set_option linter.unusedSimpArgs false
namespace Go.Proofs.YtkpbpecikibohaaGreatDoor
open Fm (Nd)
open Bt.Bs (Ok wd)
structure Km where
 W:Type
 le:W->W->Prop
 rf:∀ a,le a a
 tr:∀ a b c,le a b->le b c->le a c
 V:W->Nat->Prop
 st:∀ a b j,le a b->V a j->V b j
def Cls (M:Km) (n:Nd) (F:M.W->Nat->Prop) (a:M.W) (j:Nat):Prop :=
 if n.k=1 then M.V a j else if n.k=2 then False else if n.k=3 then F a n.l.toNat/\F a n.r.toNat else if n.k=4 then F a n.l.toNat\/F a n.r.toNat else ∀ b,M.le a b->F b n.l.toNat->F b n.r.toNat
def Fo (M:Km) (t:List Nd) (F:M.W->Nat->Prop):Prop:=∀ (j:Nat),j<t.length->∀ a,F a j ↔ Cls M (ay t (j:Int)) F a j
def Eh {α:Type} (F:α->Nat->Prop) (k:Nat) (P:α->Prop):α->Nat->Prop:=fun a j=>if j=k then P a else F a j
theorem Sg {α:Type} (F:α->Nat->Prop) (k:Nat) (P:α->Prop) (a:α):Eh F k P a k=P a:=by unfold Eh;rw[if_pos rfl]
theorem G5 {α:Type} {F:α->Nat->Prop} {k j:Nat} {P:α->Prop} (e:j≠k) (a:α):Eh F k P a j=F a j:=by unfold Eh;rw[if_neg e]
theorem Ei {t:List Nd} (hO:Fm.Ok t) {j:Nat} (hj:j<t.length) {M:Km} {F G:M.W->Nat->Prop} (h:∀ k,k<j->∀ a,F a k ↔ G a k) (a:M.W):Cls M (ay t (j:Int)) F a j ↔ Cls M (ay t (j:Int)) G a j:=by
 rw[bJ hj]
 unfold Cls
 by_cases h1:t[j].k=1
 ·rw[if_pos h1,if_pos h1]
 rw[if_neg h1,if_neg h1]
 by_cases h2:t[j].k=2
 ·rw[if_pos h2,if_pos h2]
 rw[if_neg h2,if_neg h2]
 have h3:t[j].k=3\/t[j].k=4\/t[j].k=5:=by
  rcases Fm.qP hO hj with e | e | e
  ·exact absurd e h1
  ·exact absurd e h2
  ·simp only[Fm.jn,Bool.or_eq_true,beq_iff_eq] at e
   omega
 obtain⟨x,y,ex,ey,lx,ly⟩:=kids hO hj h3
 rw[ex,ey,Int.toNat_natCast,Int.toNat_natCast]
 have hx:=h x lx
 have hy:=h y ly
 by_cases e3:t[j].k=3
 ·rw[if_pos e3,if_pos e3,hx,hy]
 rw[if_neg e3,if_neg e3]
 by_cases e4:t[j].k=4
 ·rw[if_pos e4,if_pos e4,hx,hy]
 rw[if_neg e4,if_neg e4]
 exact forall_congr' fun b=>imp_congr_right fun _=>by rw[hx b,hy b]
theorem JB {t:List Nd} (hO:Fm.Ok t) (M:Km):∃ F,Fo M t F:=by
 have key:∀ k,k<=t.length->∃ F:M.W->Nat->Prop,∀ (j:Nat),j<k->∀ a,F a j ↔ Cls M (ay t (j:Int)) F a j:=fun k=>by
  induction k with
  | zero=>exact fun _=>⟨fun _ _=>False,fun j h=>by omega⟩
  | succ k ih=>
   intro hk
   obtain⟨F,hF⟩:=ih (by omega)
   refine⟨Eh F k (fun a=>Cls M (ay t (k:Int)) F a k),fun j hj a => ?_⟩
   rw[Ei hO (show j<t.length by omega) (G:=F) (fun i hi b=>by rw[G5 (by omega)])]
   by_cases e:j=k
   ·subst e
    rw[Sg]
   ·rw[G5 e]
    exact hF j (by omega) a
 obtain⟨F,hF⟩:=key t.length (Nat.le_refl _)
 exact⟨F,hF⟩
theorem MK {t:List Nd} (hO:Fm.Ok t) {M:Km} {F G:M.W->Nat->Prop} (hF:Fo M t F) (hG:Fo M t G):∀ j,j<t.length->∀ a,F a j ↔ G a j:=by
 intro j
 induction j using Nat.strongRecOn with
 | _ j ih=>
  intro hj a
  rw[hF j hj a,hG j hj a]
  exact Ei hO hj (fun k hk b=>ih k hk (by omega) b) a
theorem Fo.ext {t t1:List Nd} {M:Km} {F:M.W->Nat->Prop} (h:Fo M t1 F) (e:Ext t t1):Fo M t F:=fun j hj a=>by
 have:=h j (Nat.lt_of_lt_of_le hj e.len) a
 rwa [e.p8 j hj] at this
section
variable {M:Km} {t:List Nd} {F:M.W->Nat->Prop}
theorem Fo.atom (h:Fo M t F) {j:Nat} (hj:j<t.length) (hk:(ay t (j:Int)).k=1) (a:M.W):F a j ↔ M.V a j:=by
 have:=h j hj a
 unfold Cls at this
 rwa [if_pos hk] at this
theorem Fo.bot (h:Fo M t F) {j:Nat} (hj:j<t.length) (hk:(ay t (j:Int)).k=2) (a:M.W):¬ F a j:=by
 have:=h j hj a
 unfold Cls at this
 rw[if_neg (by omega),if_pos hk] at this
 exact fun h=>this.1 h
theorem Fo.and (h:Fo M t F) {j x y:Nat} (hj:j<t.length) (hn:ay t (j:Int)=aH 3 x y) (a:M.W):F a j ↔ F a x/\F a y:=by
 have h1:=h j hj a
 rw[hn] at h1
 simpa[Cls,aH] using h1
theorem Fo.or (h:Fo M t F) {j x y:Nat} (hj:j<t.length) (hn:ay t (j:Int)=aH 4 x y) (a:M.W):F a j ↔ F a x\/F a y:=by
 have h1:=h j hj a
 rw[hn] at h1
 simpa[Cls,aH] using h1
theorem Fo.imp (h:Fo M t F) {j x y:Nat} (hj:j<t.length) (hn:ay t (j:Int)=aH 5 x y) (a:M.W):F a j ↔ ∀ b,M.le a b->F b x->F b y:=by
 have h1:=h j hj a
 rw[hn] at h1
 simpa[Cls,aH] using h1
theorem Fo.stay (hO:Fm.Ok t) (h:Fo M t F):∀ j,j<t.length->∀ a b,M.le a b->F a j->F b j:=by
 intro j
 induction j using Nat.strongRecOn with
 | _ j ih=>
  intro hj a b hab hf
  rcases Fm.qP hO hj with e | e | e
  ·have e':(ay t (j:Int)).k=1:=by rw[bJ hj];exact e
   exact(h.atom hj e' b).2 (M.st a b j hab ((h.atom hj e' a).1 hf))
  ·exact absurd hf (h.bot hj (by rw[bJ hj];exact e) a)
  ·simp only[Fm.jn,Bool.or_eq_true,beq_iff_eq] at e
   obtain⟨x,y,hn,hx,hy,_,_⟩:=fI hO hj rfl (by omega)
   rcases e with (e | e) | e
   ·rw[e] at hn
    have h1:=(h.and hj hn a).1 hf
    exact(h.and hj hn b).2 ⟨ih x hx (by omega) a b hab h1.1,ih y hy (by omega) a b hab h1.2⟩
   ·rw[e] at hn
    rcases(h.or hj hn a).1 hf with h1 | h1
    ·exact(h.or hj hn b).2 (Or.inl (ih x hx (by omega) a b hab h1))
    ·exact(h.or hj hn b).2 (Or.inr (ih y hy (by omega) a b hab h1))
   ·rw[e] at hn
    have h1:=(h.imp hj hn a).1 hf
    exact(h.imp hj hn b).2 fun c hbc=>h1 c (M.tr a b c hab hbc)
end
def ff {α:Type} (F:α->Nat->Prop) (a:α) (r:List Nat):Prop:=∀ n,n<1024->Bt.Bs.has r n=true->F a n
theorem fM {α:Type} {F:α->Nat->Prop} {a:α} {r:List Nat} (hr:Ok r) {n:Nat} (hn:n<1024):ff F a (Bt.Bs.put r n) ↔ ff F a r/\F a n:=by
 constructor
 ·intro h
  exact⟨fun m hm hh=>h m hm (by rw[Bt.Bs.j5 hr hn,hh];rfl),h n hn (by rw[Bt.Bs.j5 hr hn];simp)⟩
 ·rintro⟨h1,h2⟩ m hm hh
  rw[Bt.Bs.j5 hr hn,Bool.or_eq_true,decide_eq_true_eq] at hh
  rcases hh with hh | rfl
  ·exact h1 m hm hh
  ·exact h2
theorem iB {α:Type} {F:α->Nat->Prop} {a:α} {r:List Nat} (hr:Ok r) {n:Nat} (hn:n<1024) (hm:Bt.Bs.has r n=true):ff F a r ↔ ff F a (Bt.Bs.drop r n)/\F a n:=by
 constructor
 ·intro h
  refine⟨fun m hm2 hh => ?_,h n hn hm⟩
  rw[Bt.Bs.oM hr hn,Bool.and_eq_true] at hh
  exact h m hm2 hh.1
 ·rintro⟨h1,h2⟩ m hm2 hh
  by_cases e:m=n
  ·subst e;exact h2
  ·exact h1 m hm2 (by rw[Bt.Bs.oM hr hn,hh];simp[e])
def Val (t:List Nd) (s:SQ):Prop:=∀ (M:Km) (F:M.W->Nat->Prop),Fo M t F->∀ a,ff F a s.1->F a s.2.toNat
def Ref (t:List Nd) (s:SQ):Prop:=∃ (M:Km) (F:M.W->Nat->Prop) (a:M.W),Fo M t F/\ff F a s.1/\¬ F a s.2.toNat
theorem Val.ext {t t1:List Nd} {s:SQ} (h:Val t s) (e:Ext t t1):Val t1 s:=fun M F hF a=>h M F (hF.ext e) a
theorem Ref.ext {t t1:List Nd} (hO:Fm.Ok t) (iL:Fm.Ok t1) {s:SQ} (hs:eH t.length s) (h:Ref t s) (e:Ext t t1):Ref t1 s:=by
 obtain⟨M,F,a,hF,h1,h2⟩:=h
 obtain⟨G,hG⟩:=JB iL M
 have hu:=MK hO hF (hG.ext e)
 have hg:s.2.toNat<t.length:=by have:=hs.2;omega
 exact⟨M,G,a,hG,fun n hn hh=>(hu n (hs.1 n hn hh) a).1 (h1 n hn hh),fun hh=>h2 ((hu _ hg a).2 hh)⟩
theorem G6 {t:List Nd} {s:SQ} (h:Val t s) (h':Ref t s):False:=by
 obtain⟨M,F,a,hF,h1,h2⟩:=h'
 exact h2 (h M F hF a h1)
section
variable {t:List Nd} {r:List Nat} {g:Int} {i:Nat} {ru:Int} {l:List SQ} {t':List Nd}
theorem Vx (nK:Fm.Ok t') (hr:Ok r) (hi:i<t.length) (hq:eH t.length (r,g)) (h:PC t r g i ru l t') (hv:∀ s ∈ l,Val t' s):Val t' (r,g):=by
 have hlen:=nK.len
 have hex:=wE h
 have hxl:=hex.len
 have hd:=nH hr (show i<1024 by omega)
 intro M F hF a ha
 have jC:=hF.ext hex
 have hst:=Fo.stay nK hF
 have ha:ff F a r:=ha
 show F a g.toNat
 cases h with
 | bot hk hm=>exact absurd (ha i (by omega) hm) (jC.bot hi hk a)
 | same hg hm=>
  subst hg
  rw[Int.toNat_natCast]
  exact ha i (by omega) hm
 | Ed x y hn hx hy hm=>
  have e:=jC.and hi hn a
  obtain⟨h3,h4⟩:=(iB hr (by omega) hm).1 ha
  exact hv _ (List.mem_singleton.2 rfl) M F hF a ((fM (Bt.Bs.jy hd _) (by omega)).2 ⟨(fM hd (by omega)).2 ⟨h3,(e.1 h4).1⟩,(e.1 h4).2⟩)
 | atom x y hn hx hy hm hax=>
  have e:=jC.imp hi hn a
  obtain⟨h3,h4⟩:=(iB hr (by omega) hm).1 ha
  exact hv _ (List.mem_singleton.2 rfl) M F hF a ((fM hd (by omega)).2 ⟨h3,e.1 h4 a (M.rf a) (ha x (by omega) hax)⟩)
 | MI x y hn hx hy hm hk=>
  exact hv _ (List.mem_singleton.2 rfl) M F hF a ((iB hr (by omega) hm).1 ha).1
 | Am x y c d hn hx hy hm hn2 hc hdd f1 f2 t1 t2 e1 e2 l1 l2 n1 n2=>
  have a1:=jC.imp hi hn a
  have a2:=fun b=>jC.and (show x<t.length by omega) hn2 b
  have a3:=fun b=>(hF.ext e2).imp l1 n1 b
  have a4:=hF.imp l2 n2 a
  obtain⟨h3,h4⟩:=(iB hr (by omega) hm).1 ha
  refine hv _ (List.mem_singleton.2 rfl) M F hF a ((fM hd (by omega)).2 ⟨h3,a4.2 fun b hab hcb=>(a3 b).2 fun b' yA hdb => ?_⟩)
  exact a1.1 h4 b' (M.tr _ _ _ hab yA) ((a2 b').2 ⟨hst c (by omega) b b' yA hcb,hdb⟩)
 | GZ x y c d hn hx hy hm hn2 hc hdd f1 f2 t1 t2 e1 e2 l1 l2 n1 n2=>
  have a1:=jC.imp hi hn a
  have a2:=fun b=>jC.or (show x<t.length by omega) hn2 b
  have a3:=(hF.ext e2).imp l1 n1 a
  have a4:=hF.imp l2 n2 a
  have:=e2.len
  obtain⟨h3,h4⟩:=(iB hr (by omega) hm).1 ha
  refine hv _ (List.mem_singleton.2 rfl) M F hF a ((fM (Bt.Bs.jy hd _) (by omega)).2 ⟨(fM hd (by omega)).2 ⟨h3,a3.2 fun b hab hcb => ?_⟩,a4.2 fun b hab hdb => ?_⟩)
  ·exact a1.1 h4 b hab ((a2 b).2 (Or.inl hcb))
  ·exact a1.1 h4 b hab ((a2 b).2 (Or.inr hdb))
 | Ee x y hn hx hy hg=>
  subst hg
  rw[Int.toNat_natCast]
  refine(jC.imp hi hn a).2 fun b hab hxb => ?_
  have:=hv _ (List.mem_singleton.2 rfl) M F hF b ((fM hr (by omega)).2 ⟨fun n hn2 hh=>hst n ?_ a b hab (ha n hn2 hh),hxb⟩)
  ·rwa [show(Bt.Bs.put r x,(y:Int)).2.toNat=y from Int.toNat_natCast y] at this
  ·exact Nat.lt_of_lt_of_le (hq.1 n hn2 hh) hxl
 | Ef x y hn hx hy hg=>
  subst hg
  rw[Int.toNat_natCast]
  refine(jC.and hi hn a).2 ⟨?_,?_⟩
  ·have:=hv _ (List.mem_cons_self ..) M F hF a ha
   rwa [show(r,(x:Int)).2.toNat=x from Int.toNat_natCast x] at this
  ·have:=hv _ (List.mem_cons_of_mem _ (List.mem_singleton.2 rfl)) M F hF a ha
   rwa [show(r,(y:Int)).2.toNat=y from Int.toNat_natCast y] at this
 | MJ x y hn hx hy hm=>
  obtain⟨h3,h4⟩:=(iB hr (by omega) hm).1 ha
  rcases(jC.or hi hn a).1 h4 with h5 | h5
  ·exact hv _ (List.mem_cons_self ..) M F hF a ((fM hd (by omega)).2 ⟨h3,h5⟩)
  ·exact hv _ (List.mem_cons_of_mem _ (List.mem_singleton.2 rfl)) M F hF a ((fM hd (by omega)).2 ⟨h3,h5⟩)
 | Ao x y hn hx hy hg=>
  subst hg
  rw[Int.toNat_natCast]
  have:=hv _ (List.mem_singleton.2 rfl) M F hF a ha
  rw[show(r,(x:Int)).2.toNat=x from Int.toNat_natCast x] at this
  exact(jC.or hi hn a).2 (Or.inl this)
 | Ap x y hn hx hy hg=>
  subst hg
  rw[Int.toNat_natCast]
  have:=hv _ (List.mem_singleton.2 rfl) M F hF a ha
  rw[show(r,(y:Int)).2.toNat=y from Int.toNat_natCast y] at this
  exact(jC.or hi hn a).2 (Or.inr this)
 | yx x y c d hn hx hy hm hn2 hc hdd f1 t1 e1 l1 n1=>
  have a1:=jC.imp hi hn a
  have a2:=fun b=>jC.imp (show x<t.length by omega) hn2 b
  have a3:=hF.imp l1 n1 a
  obtain⟨h3,h4⟩:=(iB hr (by omega) hm).1 ha
  have hx2:F a x:=by
   have:=hv _ (List.mem_cons_self ..) M F hF a ((fM hd (by omega)).2 ⟨h3,a3.2 fun b hab hdb=>a1.1 h4 b hab ((a2 b).2 fun b' yA _=>hst d (by omega) b b' yA hdb)⟩)
   rwa [show(Bt.Bs.put (Bt.Bs.drop r i) f1,(x:Int)).2.toNat=x from Int.toNat_natCast x] at this
  exact hv _ (List.mem_cons_of_mem _ (List.mem_singleton.2 rfl)) M F hF a ((fM hd (by omega)).2 ⟨h3,a1.1 h4 a (M.rf a) hx2⟩)
theorem ML (nK:Fm.Ok t') (hr:Ok r) (hi:i<t.length) (h:PC t r g i ru l t') (h11:ru≠11) (h12:ru≠12) {s:SQ} (hs:s ∈ l) (Ej:ru=13->s.2=g/\∃ s0,l=[s0,s]) (hw:Ref t' s):Ref t' (r,g):=by
 have hlen:=nK.len
 have hex:=wE h
 have hxl:=hex.len
 have hd:=nH hr (show i<1024 by omega)
 obtain⟨M,F,a,hF,h1,h2⟩:=hw
 have jC:=hF.ext hex
 have hst:=Fo.stay nK hF
 refine⟨M,F,a,hF,?_⟩
 show ff F a r/\¬ F a g.toNat
 cases h with
 | bot hk hm=>cases hs
 | same hg hm=>cases hs
 | Ed x y hn hx hy hm=>
  obtain rfl:=List.mem_singleton.1 hs
  obtain⟨h3,h4⟩:=(fM (Bt.Bs.jy hd _) (by omega)).1 h1
  obtain⟨h5,h6⟩:=(fM hd (by omega)).1 h3
  exact⟨(iB hr (by omega) hm).2 ⟨h5,(jC.and hi hn a).2 ⟨h6,h4⟩⟩,h2⟩
 | atom x y hn hx hy hm hax=>
  obtain rfl:=List.mem_singleton.1 hs
  obtain⟨h3,h4⟩:=(fM hd (by omega)).1 h1
  exact⟨(iB hr (by omega) hm).2 ⟨h3,(jC.imp hi hn a).2 fun b hab _=>hst y (by omega) a b hab h4⟩,h2⟩
 | MI x y hn hx hy hm hk=>
  obtain rfl:=List.mem_singleton.1 hs
  exact⟨(iB hr (by omega) hm).2 ⟨h1,(jC.imp hi hn a).2 fun b _ hb=>absurd hb (jC.bot (by omega) hk b)⟩,h2⟩
 | Am x y c d hn hx hy hm hn2 hc hdd f1 f2 t1 t2 e1 e2 l1 l2 n1 n2=>
  obtain rfl:=List.mem_singleton.1 hs
  obtain⟨h3,h4⟩:=(fM hd (by omega)).1 h1
  refine⟨(iB hr (by omega) hm).2 ⟨h3,(jC.imp hi hn a).2 fun b hab hxb => ?_⟩,h2⟩
  have hcd:=(jC.and (show x<t.length by omega) hn2 b).1 hxb
  have h5:=(hF.imp l2 n2 a).1 h4 b hab hcd.1
  exact((hF.ext e2).imp l1 n1 b).1 h5 b (M.rf b) hcd.2
 | GZ x y c d hn hx hy hm hn2 hc hdd f1 f2 t1 t2 e1 e2 l1 l2 n1 n2=>
  obtain rfl:=List.mem_singleton.1 hs
  have:=e2.len
  obtain⟨h3,h4⟩:=(fM (Bt.Bs.jy hd _) (by omega)).1 h1
  obtain⟨h5,h6⟩:=(fM hd (by omega)).1 h3
  refine⟨(iB hr (by omega) hm).2 ⟨h5,(jC.imp hi hn a).2 fun b hab hxb => ?_⟩,h2⟩
  rcases(jC.or (show x<t.length by omega) hn2 b).1 hxb with h7 | h7
  ·exact((hF.ext e2).imp l1 n1 a).1 h6 b hab h7
  ·exact(hF.imp l2 n2 a).1 h4 b hab h7
 | Ee x y hn hx hy hg=>
  obtain rfl:=List.mem_singleton.1 hs
  subst hg
  obtain⟨h3,h4⟩:=(fM hr (by omega)).1 h1
  refine⟨h3,fun h5=>h2 ?_⟩
  rw[Int.toNat_natCast] at h5
  show F a (y:Int).toNat
  rw[Int.toNat_natCast]
  exact(jC.imp hi hn a).1 h5 a (M.rf a) h4
 | Ef x y hn hx hy hg=>
  subst hg
  rcases List.mem_cons.1 hs with rfl | hs
  ·refine⟨h1,fun h5=>h2 ?_⟩
   rw[Int.toNat_natCast] at h5
   show F a (x:Int).toNat
   rw[Int.toNat_natCast]
   exact((jC.and hi hn a).1 h5).1
  ·obtain rfl:=List.mem_singleton.1 hs
   refine⟨h1,fun h5=>h2 ?_⟩
   rw[Int.toNat_natCast] at h5
   show F a (y:Int).toNat
   rw[Int.toNat_natCast]
   exact((jC.and hi hn a).1 h5).2
 | MJ x y hn hx hy hm=>
  rcases List.mem_cons.1 hs with rfl | hs
  ·obtain⟨h3,h4⟩:=(fM hd (by omega)).1 h1
   exact⟨(iB hr (by omega) hm).2 ⟨h3,(jC.or hi hn a).2 (Or.inl h4)⟩,h2⟩
  ·obtain rfl:=List.mem_singleton.1 hs
   obtain⟨h3,h4⟩:=(fM hd (by omega)).1 h1
   exact⟨(iB hr (by omega) hm).2 ⟨h3,(jC.or hi hn a).2 (Or.inr h4)⟩,h2⟩
 | Ao x y hn hx hy hg=>exact absurd rfl h11
 | Ap x y hn hx hy hg=>exact absurd rfl h12
 | yx x y c d hn hx hy hm hn2 hc hdd f1 t1 e1 l1 n1=>
  obtain⟨_,s0,e0⟩:=Ej rfl
  have e2:s=(Bt.Bs.put (Bt.Bs.drop r i) y,g):=by
   have:=(List.cons.inj e0).2
   exact((List.cons.inj this).1).symm
  subst e2
  obtain⟨h3,h4⟩:=(fM hd (by omega)).1 h1
  exact⟨(iB hr (by omega) hm).2 ⟨h3,(jC.imp hi hn a).2 fun b hab _=>hst y (by omega) a b hab h4⟩,h2⟩
end
structure Pm where
 M:Km
 a:M.W
section
variable {ι:Type} (K:ι->Pm) (V0:Nat->Prop)
abbrev GW:Type:=Option (Σ z:ι,{w:(K z).M.W // (K z).M.le (K z).a w})
inductive sK:GW K->GW K->Prop
 | root (x:GW K):sK none x
 | up (z:ι) (w w':{w:(K z).M.W // (K z).M.le (K z).a w}) (h:(K z).M.le w.1 w'.1):sK (some ⟨z,w⟩) (some ⟨z,w'⟩)
def GV:GW K->Nat->Prop
 | none,j=>V0 j
 | some ⟨z,w⟩,j=>(K z).M.V w.1 j
theorem Vy:∀ a b c:GW K,sK K a b->sK K b c->sK K a c:=by
 intro a b c h1 h2
 cases h1 with
 | root x=>exact sK.root c
 | up z w w' h=>
  cases h2 with
  | up _ _ w'' h'=>exact sK.up z w w'' ((K z).M.tr _ _ _ h h')
def JC (hV:∀ z j,V0 j->(K z).M.V (K z).a j):Km where
 W:=GW K
 le:=sK K
 rf:=fun a=>by
  cases a with
  | none=>exact sK.root none
  | some p=>exact sK.up p.1 p.2 p.2 ((K p.1).M.rf _)
 tr:=Vy K
 V:=GV K V0
 st:=fun a b j h hv=>by
  cases h with
  | root=>
   cases b with
   | none=>exact hv
   | some p=>exact(K p.1).M.st _ _ j p.2.2 (hV p.1 j hv)
  | up z w w' h=>exact(K z).M.st _ _ j h hv
end
theorem El {t:List Nd} (hO:Fm.Ok t) {ι:Type} {K:ι->Pm} {V0:Nat->Prop} {hV:∀ z j,V0 j->(K z).M.V (K z).a j} {F:GW K->Nat->Prop} (hF:Fo (JC K V0 hV) t F) {z:ι} {G:(K z).M.W->Nat->Prop} (hG:Fo (K z).M t G) :
 ∀ j,j<t.length->∀ w:{w:(K z).M.W // (K z).M.le (K z).a w},F (some ⟨z,w⟩) j ↔ G w.1 j:=by
 intro j
 induction j using Nat.strongRecOn with
 | _ j ih=>
  intro hj w
  rcases Fm.qP hO hj with e | e | e
  ·have e':(ay t (j:Int)).k=1:=by rw[bJ hj];exact e
   exact(hF.atom hj e' (some ⟨z,w⟩)).trans (Iff.trans Iff.rfl (hG.atom hj e' w.1).symm)
  ·have e':(ay t (j:Int)).k=2:=by rw[bJ hj];exact e
   exact⟨fun h=>absurd h (hF.bot hj e' _),fun h=>absurd h (hG.bot hj e' _)⟩
  ·simp only[Fm.jn,Bool.or_eq_true,beq_iff_eq] at e
   obtain⟨x,y,hn,hx,hy,_,_⟩:=fI hO hj rfl (by omega)
   rcases e with (e | e) | e
   ·rw[e] at hn
    exact(hF.and hj hn (some ⟨z,w⟩)).trans (Iff.trans (and_congr (ih x hx (by omega) w) (ih y hy (by omega) w)) (hG.and hj hn w.1).symm)
   ·rw[e] at hn
    exact(hF.or hj hn (some ⟨z,w⟩)).trans (Iff.trans (or_congr (ih x hx (by omega) w) (ih y hy (by omega) w)) (hG.or hj hn w.1).symm)
   ·rw[e] at hn
    refine(hF.imp hj hn (some ⟨z,w⟩)).trans (Iff.trans ?_ (hG.imp hj hn w.1).symm)
    constructor
    ·intro h b hb hxb
     have hb':=(K z).M.tr _ _ _ w.2 hb
     have:=h (some ⟨z,⟨b,hb'⟩⟩) (sK.up z w ⟨b,hb'⟩ hb) ((ih x hx (by omega) ⟨b,hb'⟩).2 hxb)
     exact(ih y hy (by omega) ⟨b,hb'⟩).1 this
    ·intro h b hb hxb
     have hb:sK K (some ⟨z,w⟩) b:=hb
     cases hb with
     | up _ _ w' hle=>
      exact(ih y hy (by omega) w').2 (h w'.1 hle ((ih x hx (by omega) w').1 hxb))
structure Open (t:List Nd) (r:List Nat) (g:Int):Prop where
 left:∀ n,n<t.length->Bt.Bs.has r n=true->(ay t (n:Int)).k=1\/((ay t (n:Int)).k=5/\(((ay t (ay t (n:Int)).l).k=1/\Bt.Bs.has r (ay t (n:Int)).l.toNat=false)\/(ay t (ay t (n:Int)).l).k=5))
 goal:Bt.Bs.has r g.toNat=false
 kind:(ay t g).k=1\/(ay t g).k=2\/(ay t g).k=4
structure Stk (t T:List Nd) (r:List Nat) (g:Int):Prop where
 or:∀ x y:Nat,ay t g=aH 4 x y->Ref T (r,(x:Int))/\Ref T (r,(y:Int))
 imp:∀ i x y c d:Nat,i<t.length->Bt.Bs.has r i=true->ay t (i:Int)=aH 5 x y->ay t (x:Int)=aH 5 c d->∃ f,f<T.length/\ay T (f:Int)=aH 5 d y/\Ref T (Bt.Bs.put (Bt.Bs.drop r i) f,(x:Int))
theorem MN {t T:List Nd} (hO:Fm.Ok t) (Em:Fm.Ok T) (hex:Ext t T) {r:List Nat} (hr:Ok r) {g:Int} (hq:eH t.length (r,g)) (ho:Open t r g) (hs:Stk t T r g):Ref T (r,g):=by
 have hlen:=Em.len
 have hxl:=hex.len
 have Qt:∀ n,n<1024->Bt.Bs.has r n=true->n<t.length:=hq.1
 obtain⟨gn,rfl⟩:∃ gn:Nat,g=gn:=⟨g.toNat,by have h9:0<=g:=hq.2.1;omega⟩
 have hgl:gn<t.length:=by have h9:(gn:Int)<(t.length:Int):=hq.2.2;omega
 let P:Nat->Prop:=fun z=>∃ (p:Pm) (F:p.M.W->Nat->Prop),Fo p.M T F/\ff F p.a r/\¬ F p.a z
 let ι:Type:={z:Nat // P z}
 let K:ι->Pm:=fun z=>Classical.choose z.2
 have hK:∀ z:ι,∃ F:(K z).M.W->Nat->Prop,Fo (K z).M T F/\ff F (K z).a r/\¬ F (K z).a z.1:=fun z=>Classical.choose_spec z.2
 let V0:Nat->Prop:=fun j=>j<1024/\Bt.Bs.has r j=true/\(ay T (j:Int)).k=1
 have hV:∀ z j,V0 j->(K z).M.V (K z).a j:=fun z j ⟨h1,h2,h3⟩=>by
  obtain⟨F,hF,hf,_⟩:=hK z
  exact(hF.atom (Nat.lt_of_lt_of_le (Qt j h1 h2) hxl) h3 _).1 (hf j h1 h2)
 obtain⟨F,hF⟩:=JB Em (JC K V0 hV)
 have hst:=Fo.stay Em hF
 have iE:∀ (z:ι) (w:{w:(K z).M.W // (K z).M.le (K z).a w}) (n:Nat),n<1024->Bt.Bs.has r n=true->F (some ⟨z,w⟩) n:=fun z w n hn hh=>by
  obtain⟨G,hG,hf,_⟩:=hK z
  have hnt:n<T.length:=Nat.lt_of_lt_of_le (Qt n hn hh) hxl
  exact(El Em hF hG n hnt w).2 (Fo.stay Em hG n hnt _ _ w.2 (hf n hn hh))
 have hnot:∀ z,z<T.length->P z->¬ F none z:=fun z hz hp hf=>by
  obtain⟨G,hG,_,hn⟩:=hK ⟨z,hp⟩
  have h1:=hst z hz none (some ⟨⟨z,hp⟩,⟨(K ⟨z,hp⟩).a,(K ⟨z,hp⟩).M.rf _⟩⟩) (sK.root _) hf
  exact hn ((El Em hF hG z hz _).1 h1)
 have hleft:ff F (none:GW K) r:=fun n hn hh=>by
  have hnt:=Qt n hn hh
  have G7:n<T.length:=Nat.lt_of_lt_of_le hnt hxl
  have yB:=hex.p8 n hnt
  rcases ho.left n hnt hh with h1 | ⟨h5,h6⟩
  ·exact(hF.atom G7 (by rw[yB];exact h1) _).2 ⟨hn,hh,by rw[yB];exact h1⟩
  ·obtain⟨x,y,hj,hx,hy,_,_⟩:=fI hO hnt (show t[n].k=5 by rw[<- bJ hnt];exact h5) (by omega)
   have Vz:ay T (n:Int)=aH 5 x y:=by rw[yB];exact hj
   have ex:(ay t (n:Int)).l=(x:Int):=by rw[hj];rfl
   rw[ex,Int.toNat_natCast] at h6
   have hxt:x<t.length:=by omega
   refine(hF.imp G7 Vz none).2 fun b hb hxb => ?_
   have hb:sK K none b:=hb
   cases b with
   | some p=>exact(hF.imp G7 Vz (some p)).1 (iE p.1 p.2 n hn hh) (some p) ((JC K V0 hV).rf _) hxb
   | none=>
    exfalso
    rcases h6 with ⟨h7,h8⟩ | h7
    ·have h9:=(hF.atom (show x<T.length by omega) (by rw[hex.p8 x hxt];exact h7) none).1 hxb
     have h10:V0 x:=h9
     rw[h10.2.1] at h8
     cases h8
    ·obtain⟨c,d,hj2,hc,hd,_,_⟩:=fI hO hxt (show t[x].k=5 by rw[<- bJ hxt];exact h7) (by omega)
     obtain⟨f,hfl,hfn,M,G,a,hG,ZG,hgn⟩:=hs.imp n x y c d hnt hh hj hj2
     rw[show(Bt.Bs.put (Bt.Bs.drop r n) f,(x:Int)).2.toNat=x from Int.toNat_natCast x] at hgn
     have hdr:=nH hr hn
     obtain⟨h11,h12⟩:=(fM hdr (by omega)).1 ZG
     have O9:ay T (x:Int)=aH 5 c d:=by rw[hex.p8 x hxt];exact hj2
     have VA:=Fo.stay Em hG
     have ZH:∃ b,M.le a b/\G b c/\¬ G b d:=by
      apply Classical.byContradiction
      intro hne
      refine hgn ((hG.imp (show x<T.length by omega) O9 a).2 fun b hab hcb => ?_)
      apply Classical.byContradiction
      intro hdb
      exact hne ⟨b,hab,hcb,hdb⟩
     obtain⟨b,hab,hcb,hdb⟩:=ZH
     have hbl:ff G b r:=(iB hr hn hh).2 ⟨fun m hm hhm=>VA m (by
      rw[Bt.Bs.oM hr hn,Bool.and_eq_true] at hhm
      exact Nat.lt_of_lt_of_le (Qt m hm hhm.1) hxl) a b hab (h11 m hm hhm),(hG.imp G7 Vz b).2 fun b' yA ZI => ?_⟩
     ·refine hnot x (by omega) ⟨⟨M,b⟩,G,hG,hbl,fun hx'=>hdb ((hG.imp (show x<T.length by omega) O9 b).1 hx' b (M.rf b) hcb)⟩ hxb
     ·have hd':=(hG.imp (show x<T.length by omega) O9 b').1 ZI b' (M.rf b') (VA c (by omega) b b' yA hcb)
      exact(hG.imp hfl hfn a).1 h12 b' (M.tr _ _ _ hab yA) hd'
 refine⟨JC K V0 hV,F,none,hF,hleft,?_⟩
 show ¬ F none (gn:Int).toNat
 rw[Int.toNat_natCast]
 have VB:gn<T.length:=by omega
 have hgo:=ho.goal
 rw[Int.toNat_natCast] at hgo
 have yB:=hex.p8 gn hgl
 rcases ho.kind with h1 | h2 | h4
 ·intro h
  have h9:=(hF.atom VB (by rw[yB];exact h1) none).1 h
  have h10:V0 gn:=h9
  rw[h10.2.1] at hgo
  cases hgo
 ·exact hF.bot VB (by rw[yB];exact h2) none
 ·obtain⟨x,y,hj,hx,hy,_,_⟩:=fI hO hgl (show t[gn].k=4 by rw[<- bJ hgl];exact h4) (by omega)
  obtain⟨⟨M,G,a,hG,h5,h6⟩,⟨M',G',a',hG',h5',h6'⟩⟩:=hs.or x y hj
  rw[show(r,(x:Int)).2.toNat=x from Int.toNat_natCast x] at h6
  rw[show(r,(y:Int)).2.toNat=y from Int.toNat_natCast y] at h6'
  intro h
  rcases(hF.or VB (by rw[yB];exact hj) none).1 h with h7 | h7
  ·exact hnot x (by omega) ⟨⟨M,a⟩,G,hG,h5,h6⟩ h7
  ·exact hnot y (by omega) ⟨⟨M',a'⟩,G',hG',h5',h6'⟩ h7
def xK (n:Nd) (W:Nat->Nat):Nat:=if n.k=3 then W n.l.toNat+W n.r.toNat+2 else if n.k=4\/n.k=5 then W n.l.toNat+W n.r.toNat+1 else 1
def Wt (t:List Nd) (W:Nat->Nat):Prop:=∀ j:Nat,j<t.length->W j=xK (ay t (j:Int)) W
theorem Wt.ext {t t1:List Nd} {W:Nat->Nat} (h:Wt t1 W) (e:Ext t t1):Wt t W:=fun j hj=>by
 rw[<- e.p8 j hj]
 exact h j (Nat.lt_of_lt_of_le hj e.len)
theorem Pb {t:List Nd} (hO:Fm.Ok t) {j:Nat} (hj:j<t.length) {W V:Nat->Nat} (h:∀ k,k<j->W k=V k):xK (ay t (j:Int)) W=xK (ay t (j:Int)) V:=by
 rw[bJ hj]
 unfold xK
 by_cases h3:t[j].k=3\/t[j].k=4\/t[j].k=5
 ·obtain⟨x,y,ex,ey,lx,ly⟩:=kids hO hj h3
  rw[ex,ey,Int.toNat_natCast,Int.toNat_natCast,h x lx,h y ly]
 ·rw[if_neg (by omega),if_neg (by omega),if_neg (by omega),if_neg (by omega)]
theorem Si {t:List Nd} (hO:Fm.Ok t):∃ W,Wt t W:=by
 have key:∀ k,k<=t.length->∃ W:Nat->Nat,∀ j:Nat,j<k->W j=xK (ay t (j:Int)) W:=fun k=>by
  induction k with
  | zero=>exact fun _=>⟨fun _=>0,fun j h=>by omega⟩
  | succ k ih=>
   intro hk
   obtain⟨W,hW⟩:=ih (by omega)
   refine⟨fun j=>if j=k then xK (ay t (k:Int)) W else W j,fun j hj => ?_⟩
   rw[Pb hO (show j<t.length by omega) (V:=W) (fun i hi=>by rw[if_neg (by omega)])]
   show(if j=k then _ else W j)=_
   by_cases e:j=k
   ·subst e
    rw[if_pos rfl]
   ·rw[if_neg e]
    exact hW j (by omega)
 obtain⟨W,hW⟩:=key t.length (Nat.le_refl _)
 exact⟨W,hW⟩
theorem Wt.join {t:List Nd} {W:Nat->Nat} (h:Wt t W) {j x y:Nat} (hj:j<t.length) {k:Int} (hn:ay t (j:Int)=aH k x y) (hk:k=4\/k=5):W j=W x+W y+1:=by
 have h1:=h j hj
 rw[hn] at h1
 have e:xK (aH k x y) W=W x+W y+1:=by
  unfold xK aH
  simp only
  rw[if_neg (by omega),if_pos hk,Int.toNat_natCast,Int.toNat_natCast]
 rw[h1,e]
theorem Wt.and {t:List Nd} {W:Nat->Nat} (h:Wt t W) {j x y:Nat} (hj:j<t.length) (hn:ay t (j:Int)=aH 3 x y):W j=W x+W y+2:=by
 have h1:=h j hj
 rw[hn] at h1
 have e:xK (aH 3 x y) W=W x+W y+2:=by
  unfold xK aH
  simp only
  rw[if_pos trivial,Int.toNat_natCast,Int.toNat_natCast]
 rw[h1,e]
def sm (f:Nat->Nat):Nat->Nat
 | 0=>0
 | n+1=>sm f n+f n
theorem En {f g:Nat->Nat} {k:Nat} (h:∀ j,j≠k->f j=g j):∀ n,(n<=k->sm f n=sm g n)/\(k<n->sm f n+g k=sm g n+f k)
 | 0=>⟨fun _=>rfl,fun h=>by omega⟩
 | n+1=>by
  obtain⟨h1,h2⟩:=En h n
  refine⟨fun hk => ?_,fun hk => ?_⟩
  ·show sm f n+f n=sm g n+g n
   rw[h1 (by omega),h n (by omega)]
  ·show sm f n+f n+g k=sm g n+g n+f k
   by_cases e:k=n
   ·subst e
    rw[h1 (Nat.le_refl _)]
    omega
   ·have:=h2 (by omega)
    rw[h n (fun h=>e h.symm)]
    omega
def lf (W:Nat->Nat) (r:List Nat) (n:Nat):Nat:=if Bt.Bs.has r n=true then 4 ^ W n else 0
def mu (W:Nat->Nat) (s:SQ):Nat:=sm (lf W s.1) 1024+4 ^ W s.2.toNat
theorem lW (W:Nat->Nat) {r:List Nat} (hr:Ok r) {n:Nat} (hn:n<1024):sm (lf W (Bt.Bs.put r n)) 1024<=sm (lf W r) 1024+4 ^ W n:=by
 have h:=(En (f:=lf W (Bt.Bs.put r n)) (g:=lf W r) (k:=n) (fun j e=>by
  unfold lf
  rw[Bt.Bs.j5 hr hn]
  simp[e]) 1024).2 hn
 have h1:lf W (Bt.Bs.put r n) n<=4 ^ W n:=by unfold lf;split <;> simp
 omega
theorem oV (W:Nat->Nat) {r:List Nat} (hr:Ok r) {n:Nat} (hn:n<1024) (hm:Bt.Bs.has r n=true):sm (lf W (Bt.Bs.drop r n)) 1024+4 ^ W n=sm (lf W r) 1024:=by
 have h:=(En (f:=lf W (Bt.Bs.drop r n)) (g:=lf W r) (k:=n) (fun j e=>by
  unfold lf
  rw[Bt.Bs.oM hr hn]
  simp[e]) 1024).2 hn
 have h1:lf W (Bt.Bs.drop r n) n=0:=by
  unfold lf
  rw[Bt.Bs.oM hr hn]
  simp
 have h2:lf W r n=4 ^ W n:=by unfold lf;rw[if_pos hm]
 omega
theorem gM {a b:Nat} (h:a<b):4 * 4 ^ a<=4 ^ b:=by
 have:4 ^ (a+1)<=4 ^ b:=Nat.pow_le_pow_right (by omega) h
 rw[Nat.pow_succ] at this
 omega
theorem iZ (a:Nat):0<4 ^ a:=Nat.pow_pos (by omega)
theorem Sj {t:List Nd} {r:List Nat} {g:Int} {i:Nat} {ru:Int} {l:List SQ} {t':List Nd} (nK:Fm.Ok t') (hr:Ok r) (hi:i<t.length) (h:PC t r g i ru l t') {W:Nat->Nat} (hW:Wt t' W):∀ s ∈ l,mu W s<mu W (r,g):=by
 have hlen:=nK.len
 have hex:=wE h
 have hxl:=hex.len
 have hd:=nH hr (show i<1024 by omega)
 have hW0:=hW.ext hex
 cases h with
 | bot hk hm=>intro s hs;cases hs
 | same hg hm=>intro s hs;cases hs
 | Ed x y hn hx hy hm=>
  intro s hs
  obtain rfl:=List.mem_singleton.1 hs
  have e:=hW0.and hi hn
  have h1:=lW W (Bt.Bs.jy hd x) (show y<1024 by omega)
  have h2:=lW W hd (show x<1024 by omega)
  have h3:=oV W hr (show i<1024 by omega) hm
  have h4:=gM (show W x<W i by omega)
  have h5:=gM (show W y<W i by omega)
  have h6:=iZ (W i)
  unfold mu
  simp only
  omega
 | atom x y hn hx hy hm hax=>
  intro s hs
  obtain rfl:=List.mem_singleton.1 hs
  have e:=hW0.join hi hn (Or.inr rfl)
  have h2:=lW W hd (show y<1024 by omega)
  have h3:=oV W hr (show i<1024 by omega) hm
  have h5:=gM (show W y<W i by omega)
  have h6:=iZ (W i)
  unfold mu
  simp only
  omega
 | MI x y hn hx hy hm hk=>
  intro s hs
  obtain rfl:=List.mem_singleton.1 hs
  have h3:=oV W hr (show i<1024 by omega) hm
  have h6:=iZ (W i)
  unfold mu
  simp only
  omega
 | Am x y c d hn hx hy hm hn2 hc hdd f1 f2 t1 t2 e1 e2 l1 l2 n1 n2=>
  intro s hs
  obtain rfl:=List.mem_singleton.1 hs
  have a1:=hW0.join hi hn (Or.inr rfl)
  have a2:=hW0.and (show x<t.length by omega) hn2
  have a3:=(hW.ext e2).join l1 n1 (Or.inr rfl)
  have a4:=hW.join l2 n2 (Or.inr rfl)
  have h2:=lW W hd (show f2<1024 by omega)
  have h3:=oV W hr (show i<1024 by omega) hm
  have h5:=gM (show W f2<W i by omega)
  have h6:=iZ (W i)
  unfold mu
  simp only
  omega
 | GZ x y c d hn hx hy hm hn2 hc hdd f1 f2 t1 t2 e1 e2 l1 l2 n1 n2=>
  intro s hs
  obtain rfl:=List.mem_singleton.1 hs
  have:=e2.len
  have a1:=hW0.join hi hn (Or.inr rfl)
  have a2:=hW0.join (show x<t.length by omega) hn2 (Or.inl rfl)
  have a3:=(hW.ext e2).join l1 n1 (Or.inr rfl)
  have a4:=hW.join l2 n2 (Or.inr rfl)
  have h1:=lW W (Bt.Bs.jy hd f1) (show f2<1024 by omega)
  have h2:=lW W hd (show f1<1024 by omega)
  have h3:=oV W hr (show i<1024 by omega) hm
  have h4:=gM (show W f1<W i by omega)
  have h5:=gM (show W f2<W i by omega)
  have h6:=iZ (W i)
  unfold mu
  simp only
  omega
 | Ee x y hn hx hy hg=>
  intro s hs
  obtain rfl:=List.mem_singleton.1 hs
  subst hg
  have e:=hW0.join hi hn (Or.inr rfl)
  have h2:=lW W hr (show x<1024 by omega)
  have h4:=gM (show W x<W i by omega)
  have h5:=gM (show W y<W i by omega)
  have h6:=iZ (W i)
  unfold mu
  simp only[Int.toNat_natCast]
  omega
 | Ef x y hn hx hy hg=>
  intro s hs
  subst hg
  have e:=hW0.and hi hn
  have h4:=gM (show W x<W i by omega)
  have h5:=gM (show W y<W i by omega)
  have h6:=iZ (W i)
  rcases List.mem_cons.1 hs with rfl | hs
  ·unfold mu
   simp only[Int.toNat_natCast]
   omega
  ·obtain rfl:=List.mem_singleton.1 hs
   unfold mu
   simp only[Int.toNat_natCast]
   omega
 | MJ x y hn hx hy hm=>
  intro s hs
  have e:=hW0.join hi hn (Or.inl rfl)
  have h1:=lW W hd (show x<1024 by omega)
  have h2:=lW W hd (show y<1024 by omega)
  have h3:=oV W hr (show i<1024 by omega) hm
  have h4:=gM (show W x<W i by omega)
  have h5:=gM (show W y<W i by omega)
  have h6:=iZ (W i)
  rcases List.mem_cons.1 hs with rfl | hs
  ·unfold mu
   simp only
   omega
  ·obtain rfl:=List.mem_singleton.1 hs
   unfold mu
   simp only
   omega
 | Ao x y hn hx hy hg=>
  intro s hs
  obtain rfl:=List.mem_singleton.1 hs
  subst hg
  have e:=hW0.join hi hn (Or.inl rfl)
  have h4:=gM (show W x<W i by omega)
  have h6:=iZ (W i)
  unfold mu
  simp only[Int.toNat_natCast]
  omega
 | Ap x y hn hx hy hg=>
  intro s hs
  obtain rfl:=List.mem_singleton.1 hs
  subst hg
  have e:=hW0.join hi hn (Or.inl rfl)
  have h4:=gM (show W y<W i by omega)
  have h6:=iZ (W i)
  unfold mu
  simp only[Int.toNat_natCast]
  omega
 | yx x y c d hn hx hy hm hn2 hc hdd f1 t1 e1 l1 n1=>
  intro s hs
  have a1:=hW0.join hi hn (Or.inr rfl)
  have a2:=hW0.join (show x<t.length by omega) hn2 (Or.inr rfl)
  have a3:=hW.join l1 n1 (Or.inr rfl)
  have h1:=lW W hd (show f1<1024 by omega)
  have h2:=lW W hd (show y<1024 by omega)
  have h3:=oV W hr (show i<1024 by omega) hm
  have h4:=gM (show W f1<W i by omega)
  have h5:=gM (show W y<W i by omega)
  have h5:=gM (show W x<W i by omega)
  have h6:=iZ (W i)
  have h7:=iZ (W g.toNat)
  rcases List.mem_cons.1 hs with rfl | hs
  ·unfold mu
   simp only[Int.toNat_natCast]
   omega
  ·obtain rfl:=List.mem_singleton.1 hs
   unfold mu
   simp only
   omega
end Go.Proofs.YtkpbpecikibohaaGreatDoor

import Derived.Test.YtkpbpecikibohaaGreatDoorZG9
import Derived.Great.BuildSlice
set_option linter.unusedSimpArgs false
set_option maxRecDepth 100000
set_option maxHeartbeats 8000000
namespace Go.Proofs.YtkpbpecikibohaaGreatDoor
open Go.RowKit Go.Shelf Go.Maps
open Fm (Nd)
attribute [local go_sem] Oper.semAt_some
theorem bD {base n size:Nat} {e:TypeId} {w w':World} {v:Value} {xs:List Value} (h:w.ownsRow base e size v n xs) (hb:∀ k,v.ownBlock=some k->w'.heap[k]?=w.heap[k]?):w'.ownsRow base e size v n xs:=by
 refine⟨h.1,?_⟩
 rcases h.2 with h2 | ⟨g,cap,cur,rfl,hg,hh,r⟩
 ·exact Or.inl h2
 ·exact Or.inr ⟨g,cap,cur,rfl,hg,(hb g rfl).trans hh,r⟩
theorem aP {base n size:Nat} {e:TypeId} {w:World} {v:Value} {xs:List Value} (h:w.ownsRow base e size v n xs):∀ k,v.ownBlock=some k->base<=k/\k<w.heap.size/\∃ cur,w.heap[k]?=some (.cells cur e (0,0)):=by
 intro k hk
 rcases h.2 with ⟨rfl,_⟩ | ⟨g,cap,cur,rfl,hg,hh,_⟩
 ·cases hk
 ·obtain rfl:g=k:=Option.some.inj hk
  exact⟨hg,lt_of_block hh,cur,hh⟩
theorem wQ {base n size:Nat} {e:TypeId} {w:World} {v:Value} {xs:List Value} (h:w.ownsRow base e size v n xs):v.oneCell'=true:=by
 rcases h.2 with ⟨rfl,_⟩ | ⟨g,cap,cur,rfl,_⟩ <;> rfl
theorem Xp:(Tryz.prog.info? 92).map (fun i=>(i.zero,i.size,i.bytes))=some (some (.int .i64 0),1,8):=by kernel_rfl
theorem Xq:(Tryz.prog.info? 3).map (fun i=>(i.zero,i.size,i.bytes))=some (some (.int .i64 0),1,8):=by kernel_rfl
theorem VW:(Tryz.prog.info? 179).map (·.size)=some 1:=by kernel_rfl
theorem VX:(Tryz.prog.info? 37).map (·.size)=some 1:=by kernel_rfl
structure B2 (W:World) (N b10 b11:Nat) (v1 v2:Value) (n:Nat) (xs ys:List Value):Prop where
 x1:Boxed W b10 179 v1
 o1:W.ownsRow N 92 1 v1 n xs
 x2:Boxed W b11 37 v2
 o2:W.ownsRow N 3 1 v2 n ys
def xM (b10 b11:Nat) (v1 v2:Value) (i k:Nat):Prop:=(i=3/\v1.ownBlock=some k)\/(i=7/\v2.ownBlock=some k)\/(i=8/\k=b10)\/(i=9/\k=b11)
def oz (W0:World) (N:Nat) (e:TypeId) (v0:Value) (n:Nat) (xs:List Value) (v:Value) (w:World):Prop:=w.ownsRow N e 1 v n xs/\∀ k,v.ownBlock=some k->v0.ownBlock=some k\/W0.heap.size<=k
def wG (W0:World) (x:Int) (v:Value) (w:World):Prop:=∃ q,v=.slice (some ⟨q,0,none⟩) 1 1/\W0.heap.size<=q/\w.cell? ⟨q,0,none⟩=some (.int .i64 x)
structure SC (W0 w:World) (N b10 b11:Nat) (v1 v2:Value) (n:Nat) (xs ys:List Value) (done:Nat->Bool):Prop where
 s1:done 3=false->Boxed w b10 179 v1/\w.ownsRow N 92 1 v1 n xs
 e1:∃ u,Boxed w b10 179 u
 s2:done 7=false->Boxed w b11 37 v2/\w.ownsRow N 3 1 v2 n ys
 e2:∃ u,Boxed w b11 37 u
 fr:Kp (fun k=>v1.ownBlock=some k\/v2.ownBlock=some k\/k=b10\/k=b11) W0 w
theorem Sw {S:Nat->Prop} {w w':World} (h:Kp S w w') {p:Addr} {v:Value} (hc:w.cell? p=some v) (hn:¬ S p.block):w'.cell? p=some v:=(World.cell?_of_block (a:=p) (h.block p.block (World.block_lt_of_cell? w _ hc) hn)).trans hc
structure AC (W0:World) (b10 b11:Nat) (v1 v2:Value):Prop where
 l10:b10<W0.heap.size
 YM:b11<W0.heap.size
 ne:b10≠b11
 a1:v1.ownBlock≠some b10/\v1.ownBlock≠some b11
 a2:v2.ownBlock≠some b10/\v2.ownBlock≠some b11
 a12:∀ k,v1.ownBlock=some k->v2.ownBlock≠some k
 l1:∀ k,v1.ownBlock=some k->k<W0.heap.size
 l2:∀ k,v2.ownBlock=some k->k<W0.heap.size
theorem B2.ac {W:World} {N b10 b11:Nat} {v1 v2:Value} {n:Nat} {xs ys:List Value} (h:B2 W N b10 b11 v1 v2 n xs ys):AC W b10 b11 v1 v2:=by
 have no:∀ (k:Nat) (c1 c2:Array Value) (t1 t2:TypeId),W.heap[k]?=some (.cells c1 t1 (0,0))->W.heap[k]?=some (.cells c2 t2 (0,0))->t1=t2:=fun k c1 c2 t1 t2 h1 h2=>by
  rw[h1] at h2
  injection h2 with h2
  injection h2
 refine⟨h.x1.lt,h.x2.lt,fun e => ?_,⟨fun e => ?_,fun e => ?_⟩,⟨fun e => ?_,fun e => ?_⟩,fun k e e' => ?_,fun k e=>(aP h.o1 k e).2.1,fun k e=>(aP h.o2 k e).2.1⟩
 ·exact absurd (no b10 _ _ _ _ h.x1 (by rw[e];exact h.x2)) (by decide)
 ·obtain⟨_,_,cur,hc⟩:=aP h.o1 _ e;exact absurd (no _ _ _ _ _ hc h.x1) (by decide)
 ·obtain⟨_,_,cur,hc⟩:=aP h.o1 _ e;exact absurd (no _ _ _ _ _ hc h.x2) (by decide)
 ·obtain⟨_,_,cur,hc⟩:=aP h.o2 _ e;exact absurd (no _ _ _ _ _ hc h.x1) (by decide)
 ·obtain⟨_,_,cur,hc⟩:=aP h.o2 _ e;exact absurd (no _ _ _ _ _ hc h.x2) (by decide)
 ·obtain⟨_,_,cur,hc⟩:=aP h.o1 _ e;obtain⟨_,_,cur',hc'⟩:=aP h.o2 _ e';exact absurd (no _ _ _ _ _ hc hc') (by decide)
section
variable {W0 w w':World} {N b10 b11:Nat} {v1 v2:Value} {n:Nat} {xs ys:List Value} {done:Nat->Bool}
theorem kV {S:Nat->Prop} {b:Nat} {t:TypeId} {v:Value} (h:Boxed w b t v) (hk:Kp S w w') (hn:¬ S b):Boxed w' b t v:=(hk.block b h.lt hn).trans h
theorem SC.other (h:SC W0 w N b10 b11 v1 v2 n xs ys done) (i:Nat) (_hi:i≠3/\i≠7) (hb:Below w.heap.size w w'):SC W0 w' N b10 b11 v1 v2 n xs ys (fun j=>j == i || done j):=by
 obtain⟨u1,e1⟩:=h.e1
 obtain⟨u2,e2⟩:=h.e2
 refine⟨fun h3 => ?_,⟨u1,eX e1 hb e1.lt⟩,fun h7 => ?_,⟨u2,eX e2 hb e2.lt⟩,h.fr.trans (Kp.of_below (S:=fun _=>False) hb) (fun _ hf=>hf.elim)⟩
 ·have h3':done 3=false:=by simp at h3;exact h3.2
  obtain⟨a,b⟩:=h.s1 h3'
  exact⟨eX a hb a.lt,sN b hb⟩
 ·have h7':done 7=false:=by simp at h7;exact h7.2
  obtain⟨a,b⟩:=h.s2 h7'
  exact⟨eX a hb a.lt,sN b hb⟩
end
theorem xg {P:Program} {ops:Array Oper} {Q:Exit->Act->World->Prop} {id l m:Nat} {a0:Act} {w:World} (hm:P.follows .mixedOrders=true) (hnd:(ops.all fun o=>match o.op with | .defer _=>false | _=>true)=true) (hQ:¬ LetsOut Q) (aM:List (Option Tmp)) (needs:List (List Nat)) (hc:lC .any ops aM needs a0.tmps.size=true) (R:Nat->Value->World->Prop) (S:(Nat->Bool)->World->Prop) (le:Nat->World->World->Prop)
 (hle:∀ i j v w w',i≠j->i ∉ needs.getD j []->le i w w'->R j v w->R j v w') (h0:S (fun _=>false) w.drew)
 (step:∀ i,i<ops.size->∀ (done:Nat->Bool) a w,S done w->done i=false->(∀ j ∈ needs.getD i [],done j=true)->(∀ j,i ∈ needs.getD j []->done j=false)->mX aM a0 a->(∀ j ∈ needs.getD i [],∃ v,Got a (aM.getD j none) v/\R j v w) ->
  wpOp P ops Q i (fun a' w'=>∃ v,a'=a.put (aM.getD i none) v/\R i v w'/\S (fun j=>j == i || done j) w'/\le i w w') a w)
 (fin:∀ (vs:Nat->Value) (done:Nat->Bool) (w:World),(∀ i,i<ops.size->done i=true)->S done w->(∀ i,i<ops.size->R i (vs i) w)->Q .normal (bn aM vs 0 a0) w):(Code.region id ops true).wpIn (Fence.wide.inRound l) m P Q a0 w:=by
 refine wpIn_region_any hm (sM (fun i o ho c hc => ?_) hQ _ _ _ _ (Ji aM needs hc R S le hle h0 step fin))
 have h1:=(Array.all_eq_true'.1 hnd) o (Array.mem_of_getElem? ho)
 rw[hc] at h1
 cases h1
open Bt.Bs (Ok wd)
attribute [local go_sem] Oper.semAt_some
theorem lN {w:World} {q:Nat} {v:Value} (h:w.cell? ⟨q,0,none⟩=some v):∀ (j:Nat) (u:Value),[v][j]?=some u->w.cell? ((⟨q,0,none⟩:Addr).add j)=some u:=by
 intro j u hu
 match j,hu with
 | 0,hu=>
  rw[Addr.add_lit]
  simp at hu
  rw[<- hu]
  exact h
theorem st1 {w:World} {b:Nat} {T T0:TypeId} {old v:Value} (h:Boxed w b T0 old) (hs:(Tryz.prog.info? T).map (·.size)=some 1) (h1:v.oneCell'=true):(Instr.storeAt T (.pointer (some ⟨b,0,none⟩)) v).run Tryz.prog w=.ok () (w.setRow b #[v]):=by
 simp only[Instr.storeAt,Instr.sureAddr,Sem.run_bind,Sem.run_pure,Result.andThen]
 exact run_storeVar_one w b T0 T old v h hs h1
section
variable {W0 w w':World} {N b10 b11:Nat} {v1 v2:Value} {n:Nat} {xs ys:List Value} {done:Nat->Bool}
theorem SC.ZM (h:SC W0 w N b10 b11 v1 v2 n xs ys done) (hA:AC W0 b10 b11 v1 v2) (hg:w.grownBy w' v1.ownBlock):SC W0 w' N b10 b11 v1 v2 n xs ys (fun j=>j == 3 || done j):=by
 have hk:Kp (fun k=>v1.ownBlock=some k) w w':=⟨hg.os,hg.tape,hg.output,hg.size,fun k hk hn=>hg.block k hk (fun e=>hn e.symm)⟩
 obtain⟨u1,e1⟩:=h.e1
 obtain⟨u2,e2⟩:=h.e2
 refine⟨fun h3=>by simp at h3,⟨u1,kV e1 hk hA.a1.1⟩,fun h7 => ?_,⟨u2,kV e2 hk hA.a1.2⟩,h.fr.trans hk (fun k hf=>Or.inl (Or.inl hf))⟩
 obtain⟨a,b⟩:=h.s2 (by simpa using h7)
 exact⟨kV a hk hA.a1.2,bD b (fun k e=>hk.block k (aP b k e).2.1 (fun e'=>hA.a12 k e' e))⟩
theorem SC.ZN (h:SC W0 w N b10 b11 v1 v2 n xs ys done) (hA:AC W0 b10 b11 v1 v2) (hg:w.grownBy w' v2.ownBlock):SC W0 w' N b10 b11 v1 v2 n xs ys (fun j=>j == 7 || done j):=by
 have hk:Kp (fun k=>v2.ownBlock=some k) w w':=⟨hg.os,hg.tape,hg.output,hg.size,fun k hk hn=>hg.block k hk (fun e=>hn e.symm)⟩
 obtain⟨u1,e1⟩:=h.e1
 obtain⟨u2,e2⟩:=h.e2
 refine⟨fun h3 => ?_,⟨u1,kV e1 hk hA.a2.1⟩,fun h7=>by simp at h7,⟨u2,kV e2 hk hA.a2.2⟩,h.fr.trans hk (fun k hf=>Or.inl (Or.inr (Or.inl hf)))⟩
 obtain⟨a,b⟩:=h.s1 (by simpa using h3)
 exact⟨kV a hk hA.a2.1,bD b (fun k e=>hk.block k (aP b k e).2.1 (fun e'=>hA.a12 k e e'))⟩
theorem SC.ZO (h:SC W0 w N b10 b11 v1 v2 n xs ys done) (hA:AC W0 b10 b11 v1 v2) (hd:done 3=true) {u:Value} (hu:Boxed w b10 179 u) (v:Value):SC W0 (w.setRow b10 #[v]) N b10 b11 v1 v2 n xs ys (fun j=>j == 8 || done j):=by
 have hk:Kp (fun k=>k=b10) w (w.setRow b10 #[v]):=fJ w b10 _
 obtain⟨u2,e2⟩:=h.e2
 refine⟨fun h3=>by simp[hd] at h3,⟨v,setRow_heap w b10 _ _ _ _ hu⟩,fun h7 => ?_,⟨u2,kV e2 hk (fun e=>hA.ne e.symm)⟩,h.fr.trans hk (fun k hf=>Or.inl (Or.inr (Or.inr (Or.inl hf))))⟩
 obtain⟨a,b⟩:=h.s2 (by simpa using h7)
 exact⟨kV a hk (fun e=>hA.ne e.symm),bD b (fun k e=>hk.block k (aP b k e).2.1 (fun e'=>hA.a2.1 (e' ▸ e)))⟩
theorem SC.ZP (h:SC W0 w N b10 b11 v1 v2 n xs ys done) (hA:AC W0 b10 b11 v1 v2) (hd:done 7=true) {u:Value} (hu:Boxed w b11 37 u) (v:Value):SC W0 (w.setRow b11 #[v]) N b10 b11 v1 v2 n xs ys (fun j=>j == 9 || done j):=by
 have hk:Kp (fun k=>k=b11) w (w.setRow b11 #[v]):=fJ w b11 _
 obtain⟨u1,e1⟩:=h.e1
 refine⟨fun h3 => ?_,⟨u1,kV e1 hk hA.ne⟩,fun h7=>by simp[hd] at h7,⟨v,setRow_heap w b11 _ _ _ _ hu⟩,h.fr.trans hk (fun k hf=>Or.inl (Or.inr (Or.inr (Or.inr hf))))⟩
 obtain⟨a,b⟩:=h.s1 (by simpa using h3)
 exact⟨kV a hk hA.ne,bD b (fun k e=>hk.block k (aP b k e).2.1 (fun e'=>hA.a1.2 (e' ▸ e)))⟩
theorem MV (hA:AC W0 b10 b11 v1 v2) {i k:Nat} (h:xM b10 b11 v1 v2 i k):k<W0.heap.size:=by
 rcases h with ⟨_,h⟩ | ⟨_,h⟩ | ⟨_,h⟩ | ⟨_,h⟩
 ·exact hA.l1 k h
 ·exact hA.l2 k h
 ·rw[h];exact hA.l10
 ·rw[h];exact hA.YM
theorem wG.kp {x:Int} {v:Value} (hA:AC W0 b10 b11 v1 v2) {i:Nat} (hk:Kp (xM b10 b11 v1 v2 i) w w') (h:wG W0 x v w):wG W0 x v w':=by
 obtain⟨q,hv,hq,hc⟩:=h
 exact⟨q,hv,hq,Sw hk hc (fun hf=>by have:=MV hA hf;show False;have:q<W0.heap.size:=this;omega)⟩
theorem oz.kp {e:TypeId} {v0 v:Value} {zs:List Value} {m:Nat} (hA:AC W0 b10 b11 v1 v2) {i:Nat} (hk:Kp (xM b10 b11 v1 v2 i) w w') (h0:∀ k,v0.ownBlock=some k->¬ xM b10 b11 v1 v2 i k) (h:oz W0 N e v0 m zs v w):oz W0 N e v0 m zs v w':=by
 refine⟨bD h.1 (fun k hb=>hk.block k (aP h.1 k hb).2.1 (fun hf => ?_)),h.2⟩
 rcases h.2 k hb with h1 | h1
 ·exact h0 k h1 hf
 ·have:=MV hA hf
  omega
theorem YN (hA:AC W0 b10 b11 v1 v2) {i:Nat} (hi:i≠3):∀ k,v1.ownBlock=some k->¬ xM b10 b11 v1 v2 i k:=by
 rintro k h (⟨e,_⟩ | ⟨_,e⟩ | ⟨_,e⟩ | ⟨_,e⟩)
 ·exact hi e
 ·exact hA.a12 k h e
 ·exact hA.a1.1 (e ▸ h)
 ·exact hA.a1.2 (e ▸ h)
theorem YO (hA:AC W0 b10 b11 v1 v2) {i:Nat} (hi:i≠7):∀ k,v2.ownBlock=some k->¬ xM b10 b11 v1 v2 i k:=by
 rintro k h (⟨_,e⟩ | ⟨e,_⟩ | ⟨_,e⟩ | ⟨_,e⟩)
 ·exact hA.a12 k e h
 ·exact hi e
 ·exact hA.a2.1 (e ▸ h)
 ·exact hA.a2.2 (e ▸ h)
theorem fr8 (hA:AC W0 b10 b11 v1 v2) {i:Nat} (hi:i≠8):¬ xM b10 b11 v1 v2 i b10:=by
 rintro(⟨_,e⟩ | ⟨_,e⟩ | ⟨e,_⟩ | ⟨_,e⟩)
 ·exact hA.a1.1 e
 ·exact hA.a2.1 e
 ·exact hi e
 ·exact hA.ne e
theorem fr9 (hA:AC W0 b10 b11 v1 v2) {i:Nat} (hi:i≠9):¬ xM b10 b11 v1 v2 i b11:=by
 rintro(⟨_,e⟩ | ⟨_,e⟩ | ⟨_,e⟩ | ⟨e,_⟩)
 ·exact hA.a1.2 e
 ·exact hA.a2.2 e
 ·exact hA.ne e.symm
 ·exact hi e
end
theorem VY {W:World} {N b10 b11:Nat} {v1 v2:Value} {n:Nat} {xs ys:List Value} {x:Int × Int} (hA:AC W b10 b11 v1 v2):∀ (i j:Nat) (v:Value) (w w':World),i≠j->i ∉ ([[],[],[1],[0,2],[],[],[5],[4,6],[3],[7]]:List (List Nat)).getD j []->(fun i w w'=>Kp (xM b10 b11 v1 v2 i) w w') i w w'->(fun i v w=>match i with | 0=>v=v1 | 1=>v=.int .i64 x.1 | 2=>wG W x.1 v w | 3=>oz W N 92 v1 (n+1) (xs ++ [Value.int .i64 x.1]) v w | 4=>v=v2 | 5=>v=.int .i64 x.2 | 6=>wG W x.2 v w | 7=>oz W N 3 v2 (n+1) (ys ++ [Value.int .i64 x.2]) v w | 8=>∃ u,Boxed w b10 179 u/\oz W N 92 v1 (n+1) (xs ++ [Value.int .i64 x.1]) u w | 9=>∃ u,Boxed w b11 37 u/\oz W N 3 v2 (n+1) (ys ++ [Value.int .i64 x.2]) u w | _=>True) j v w->(fun i v w=>match i with | 0=>v=v1 | 1=>v=.int .i64 x.1 | 2=>wG W x.1 v w | 3=>oz W N 92 v1 (n+1) (xs ++ [Value.int .i64 x.1]) v w | 4=>v=v2 | 5=>v=.int .i64 x.2 | 6=>wG W x.2 v w | 7=>oz W N 3 v2 (n+1) (ys ++ [Value.int .i64 x.2]) v w | 8=>∃ u,Boxed w b10 179 u/\oz W N 92 v1 (n+1) (xs ++ [Value.int .i64 x.1]) u w | 9=>∃ u,Boxed w b11 37 u/\oz W N 3 v2 (n+1) (ys ++ [Value.int .i64 x.2]) u w | _=>True) j v w':=by
 intro i j v w w' hij hn hk h
 match j,h,hn,hij with
 | 0,h,_,_=>exact h
 | 1,h,_,_=>exact h
 | 2,h,_,_=>exact wG.kp hA hk h
 | 3,h,_,hij=>exact oz.kp hA hk (YN hA hij) h
 | 4,h,_,_=>exact h
 | 5,h,_,_=>exact h
 | 6,h,_,_=>exact wG.kp hA hk h
 | 7,h,_,hij=>exact oz.kp hA hk (YO hA hij) h
 | 8,h,hn,hij=>
  obtain⟨u,h1,h2⟩:=h
  exact⟨u,kV h1 hk (fr8 hA hij),oz.kp hA hk (YN hA (fun e=>hn (by subst e;decide))) h2⟩
 | 9,h,hn,hij=>
  obtain⟨u,h1,h2⟩:=h
  exact⟨u,kV h1 hk (fr9 hA hij),oz.kp hA hk (YO hA (fun e=>hn (by subst e;decide))) h2⟩
 | _+10,h,_,_=>trivial
attribute [local go_sem] Oper.semAt_some
def fT (t:List Nd) (r:List Nat) (g:Int):List (Int × Int):=if eP t r g=0/\(aZ t r g).1=14 then tl1 r g (cZ t r g) nC else []
def i1 (l:List (Int × Int)):List Value:=l.map fun x=>.int .i64 x.1
def i2 (l:List (Int × Int)):List Value:=l.map fun x=>.int .i64 x.2
theorem MW (r:List Nat) (g:Int) (t:List Nd):(tl1 r g (cZ t r g) nC).length<=100000:=by
 have h3:∀ (m:Sh) (I:List Nat),(nL r g m I).length<=I.length:=fun m I=>by
  unfold nL
  induction I with
  | nil=>simp
  | cons i I ih=>rw[List.flatMap_cons,List.length_append,List.length_cons];have:(sV r g m i).length<=1:=by unfold sV;split <;> simp
                 omega
 have h2:∀ (I:List Nat) (ms:List Sh),(lF r g I ms).length<=ms.length * I.length:=fun I ms=>by
  unfold lF
  induction ms with
  | nil=>simp
  | cons m ms ih=>rw[List.flatMap_cons,List.length_append,List.length_cons,Nat.succ_mul];have:=h3 m I;omega
 have hs:=yC t r g
 have e:tl1 r g (cZ t r g) nC=lF r g (bG [11]) (cZ t r g) ++ (lF r g (bG [12]) (cZ t r g) ++ lF r g (bG [13]) (cZ t r g)):=by simp[tl1,nC]
 have p1:(bG [11]).length=1:=by decide
 have p2:(bG [12]).length=1:=by decide
 have p3:(bG [13]).length=1:=by decide
 have a1:=h2 (bG [11]) (cZ t r g)
 have a2:=h2 (bG [12]) (cZ t r g)
 have a3:=h2 (bG [13]) (cZ t r g)
 rw[p1] at a1
 rw[p2] at a2
 rw[p3] at a3
 rw[e,List.length_append,List.length_append]
 omega
theorem VZ (w:World):(zeroValue 179).run Tryz.prog w=.ok (.slice none 0 0) w:=by kernel_rfl
theorem V3 (w:World):(zeroValue 37).run Tryz.prog w=.ok (.slice none 0 0) w:=by kernel_rfl
theorem lT {b b' n size:Nat} {e:TypeId} {w:World} {v:Value} {xs:List Value} (h:w.ownsRow b e size v n xs) (hb:b'<=b):w.ownsRow b' e size v n xs:=by
 refine⟨h.1,?_⟩
 rcases h.2 with h2 | ⟨g,cap,cur,rfl,hg,hh,r⟩
 ·exact Or.inl h2
 ·exact Or.inr ⟨g,cap,cur,rfl,Nat.le_trans hb hg,hh,r⟩
theorem qp {P:Program} {fn:Func} {p q t:Tmp} (h:fn.results=#[.tmp p,.tmp q,.tmp t]) (tmps:Array Value) (w:World):(results fn tmps).run P w=.ok (.tuple #[tmps.getD p undef,tmps.getD q undef,tmps.getD t undef]) w:=by
 simp[results,h,Result.andThen]
def CI (w0 W:World) (N b10 b11:Nat) (l:List (Int × Int)):Prop:=∃ v1 v2,B2 W N b10 b11 v1 v2 l.length (i1 l) (i2 l)/\N<=W.heap.size/\Below w0.heap.size w0 W
theorem BD {base n size:Nat} {e:TypeId} {W W':World} {v:Value} {xs:List Value} {row:Option Nat} (h:W.ownsRow base e size v n xs) (hg:W.grownBy W' row) (hr:∀ r,row=some r->∃ o:Obj,W.heap[r]?=some o/\o.isCells=false):W'.ownsRow base e size v n xs :=
 bD h fun k hk=>hg.block k (aP h k hk).2.1 (fun e'=>by
  obtain⟨o,ho,hc⟩:=hr k e'.symm
  obtain⟨_,_,cur,hh⟩:=aP h k hk
  rw[hh] at ho
  cases ho
  cases hc)
theorem V4 {w0:World} {N b10 b11 n:Nat} (hn:w0.heap.size<=n):OwnFrom n (fun (l:List (Int × Int)) W=>CI w0 W N b10 b11 l):=fun s W W' row hs hg hr=>by
 obtain⟨v1,v2,h,BF,hb⟩:=hs
 have hr2:∀ r,row=some r->∃ o:Obj,W.heap[r]?=some o/\o.isCells=false:=fun r e=>(hr r e).2
 refine⟨v1,v2,⟨?_,BD h.o1 hg hr2,?_,BD h.o2 hg hr2⟩,Nat.le_trans BF hg.size,ownFrom_below (β:=Unit) (n₀:=w0.heap.size) (B:=n) (w₀:=w0) (Nat.le_refl _) hn () W W' row hb hg hr⟩
 ·exact Own.from (boxed_own (β:=Unit) b10 179 (fun _=>v1)) n () W W' row h.x1 hg hr
 ·exact Own.from (boxed_own (β:=Unit) b11 37 (fun _=>v2)) n () W W' row h.x2 hg hr
theorem MX {W w:World} {B N b10 b11:Nat} {v1 v2:Value} {n:Nat} {xs ys:List Value} (h:B2 W N b10 b11 v1 v2 n xs ys) (hk:Kp (fun k=>v1.ownBlock=some k\/v2.ownBlock=some k\/k=b10\/k=b11) W w) (h10:b10<B) (h11:b11<B) (BF:N<=W.heap.size):KQ B N W w/\KeepsOthers W w:=by
 have ty:∀ k,(v1.ownBlock=some k\/v2.ownBlock=some k\/k=b10\/k=b11)->∃ cs T,W.heap[k]?=some (.cells cs T (0,0))/\(T=92\/T=3\/T=179\/T=37):=by
  rintro k (e | e | rfl | rfl)
  ·obtain⟨_,_,cur,hc⟩:=aP h.o1 k e;exact⟨_,_,hc,Or.inl rfl⟩
  ·obtain⟨_,_,cur,hc⟩:=aP h.o2 k e;exact⟨_,_,hc,Or.inr (Or.inl rfl)⟩
  ·exact⟨_,_,h.x1,Or.inr (Or.inr (Or.inl rfl))⟩
  ·exact⟨_,_,h.x2,Or.inr (Or.inr (Or.inr rfl))⟩
 refine⟨⟨⟨hk.size,fun k cs T fr hb h1 h2=>hk.block k (lt_of_block hb) (fun hs => ?_)⟩,fun k hB hN => ?_⟩,⟨hk.size,fun k o ho hc=>(hk.block k (lt_of_block ho) (fun hs => ?_)).trans ho⟩⟩
 ·obtain⟨cs',T',hc',hT⟩:=ty k hs
  rw[hb] at hc'
  injection hc' with hc'
  injection hc' with _ e _
  subst e
  rcases hT with e | e | e | e
  ·exact h1.2 e
  ·exact h2.2 e
  ·exact h1.1 e
  ·exact h2.1 e
 ·by_cases hlt:k<W.heap.size
  ·refine hk.block k hlt (fun hs => ?_)
   rcases hs with e | e | e | e
   ·have:=(aP h.o1 k e).1;omega
   ·have:=(aP h.o2 k e).1;omega
   ·omega
   ·omega
  ·omega
 ·obtain⟨cs',T',hc',_⟩:=ty k hs
  rw[ho] at hc'
  cases hc'
  cases hc
theorem FR (w0:World) {b m:Nat} {v:Value} {t:List Nd} (hT:Tb w0 b m v t) (hZ:Bt.Tz w0) {r:List Nat} (hr:Ok r) (g:Int) :
 Calls Tryz.prog 145 #[.pointer (some ⟨b,0,none⟩),.agg (au r g)] w0 fun e w'=>∃ v1 v2,e=.returned (.tuple #[v1,v2,.int .i64 (eP t r g)])/\w'.ownsRow w0.heap.size 92 1 v1 (fT t r g).length (i1 (fT t r g))/\w'.ownsRow w0.heap.size 3 1 v2 (fT t r g).length (i2 (fT t r g))/\Below w0.heap.size w0 w':=by
 have hl:=hr.1
 have HT:=show Hid (∀ W:World,Below w0.heap.size w0 W->Tb W b m v t/\Bt.Tz W) from fun W h=>⟨hT.later h,Bt.iY hZ h⟩
 have HO:=show Hid (eP t r g=0->cZ t r g≠[]) from fun h=>Es hT.ok hr (G9 h)
 have He:=show Hid (fT t r g=if eP t r g=0/\(aZ t r g).1=14 then tl1 r g (cZ t r g) nC else []) from rfl
 have HTL:=show Hid ((tl1 r g (cZ t r g) nC).length<=100000) from MW r g t
 have KA:=show Hid (∀ W:World,Below w0.heap.size w0 W->Calls Tryz.prog 32 #[.pointer (some ⟨b,0,none⟩),.agg (au r g)] W fun e w'=>e=.returned (.tuple #[.int .i64 (if eP t r g=0 then (aZ t r g).1 else 0),.int .i64 (if eP t r g=0 then (aZ t r g).2 else 0),.int .i64 (eP t r g)])/\Below W.heap.size W w') from fun W h=>wF W (HT.out W h).1 (HT.out W h).2 hr g
 clear hT hZ
 generalize fT t r g=cf at *
 generalize aZ t r g=af at *
 generalize eP t r g=rq at *
 refine(callsIn_wide (n:=5)).1 ?_
 refine callsIn_of_wp_marks Tryz.func145 rfl trivial ?_ rfl
 simp only[Tryz.ntmps145,List.size_toArray,List.length_cons,List.length_nil,Nat.reduceAdd,Nat.reduceSub,Array.replicate_succ,Array.replicate_zero,List.push_toArray,List.append_toArray,List.nil_append,List.cons_append]
 refine wpIn_wide.2 ?_
 go_wp2_with (refine aC 53 _ rfl _ rfl rfl ?_)
 intro w1 b3 hn1
 have H1:=show Hid (sI w0 w1 b3 r g) from⟨hn1.blk,hn1.av,hn1.ge⟩
 clear hn1
 have K1:=show Hid _ from KA.out w1 H1.out.av
 clear KA
 go_wp2_with (refine dU _ _ rfl b3 rfl H1.out.s hl rfl ?_)
 refine Calls.mono K1.out ?_
 rintro e w2 ⟨rfl,hb2⟩
 have H2:=show Hid _ from H1.out.later hb2
 clear H1 hb2 K1
 have Hf:∀ (W:World) (e:TypeId),W.ownsRow w0.heap.size e 1 (.slice none 0 0) 0 []:=fun W e=>⟨rfl,Or.inl ⟨rfl,rfl⟩⟩
 have Qw:=show Hid _ from Hf
 clear Hf
 by_cases hz:rq=0
 ·subst hz
  simp only[if_true]
  by_cases hk:af.1=14
  ·obtain rfl:cf=tl1 r g (cZ t r g) nC:=by rw[He.out,if_pos ⟨rfl,hk⟩]
   have hkb:(af.1 != 14)=false:=by rw[hk];rfl
   clear He hk
   go_wp2_with (refine fO 179 rfl _ VZ rfl rfl ?_)
   intro w3 b10 aL
   go_wp2_with (refine fO 37 rfl _ V3 rfl rfl ?_)
   intro w4 b11 fV
   have H4:=show Hid (sI w0 w4 b3 r g/\Boxed w4 b10 179 (.slice none 0 0)/\Boxed w4 b11 37 (.slice none 0 0)/\b10<w4.heap.size/\b11<w4.heap.size/\w0.heap.size<=b10/\w0.heap.size<=b11) from
    ⟨(H2.out.later aL.av).later fV.av,Cl.new aL.blk fV,fV.blk,Cl.lt (Cl.new aL.blk fV),Cl.lt fV.blk,by have:=H2.out.av.size;have:=aL.ge;omega,by have:=H2.out.av.size;have:=aL.av.size;have:=fV.ge;omega⟩
   clear aL fV H2
   have KW:=show Hid _ from sU w4 b hr g
   go_wp2_with (refine dU _ _ rfl b3 rfl H4.out.1.s hl rfl ?_)
   refine Calls.mono KW.out ?_
   rintro e w6 ⟨k,T,wb,L,rfl,MU,pO,hb6⟩
   have H6:=show Hid (Below w0.heap.size w0 w6/\Boxed w6 b10 179 (.slice none 0 0)/\Boxed w6 b11 37 (.slice none 0 0)/\Made w6 k b T wb r g L) from⟨H4.out.1.av.trans (hb6.mono H4.out.1.av.size),eX H4.out.2.1 hb6 H4.out.2.1.lt,eX H4.out.2.2.1 hb6 H4.out.2.2.1.lt,MU⟩
   have nW:=show Hid (b10<w6.heap.size/\b11<w6.heap.size/\w0.heap.size<=b10/\w0.heap.size<=b11) from⟨H6.out.2.1.lt,H6.out.2.2.1.lt,H4.out.2.2.2.2.2.1,H4.out.2.2.2.2.2.2⟩
   clear H4 hb6 MU KW pO
   have KU:=show Hid _ from JE w6
   go_wp2_with fail
   refine Calls.mono KU.out ?_
   rintro e w7 ⟨q,tv,rfl,htr,j4⟩
   have H7:=show Hid (Below w0.heap.size w0 w7/\Boxed w7 b10 179 (.slice none 0 0)/\Boxed w7 b11 37 (.slice none 0 0)/\Made w7 k b T wb r g L) from⟨H6.out.1.trans (j4.mono H6.out.1.size),eX H6.out.2.1 j4 H6.out.2.1.lt,eX H6.out.2.2.1 j4 H6.out.2.2.1.lt,H6.out.2.2.2.later j4⟩
   have KF:=show Hid _ from xL w7 (HT.out w7 H7.out.1).1 (HT.out w7 H7.out.1).2 H7.out.2.2.2 hr (HO.out (by trivial)) htr
   clear H6 j4 KU htr
   go_wp2_with fail
   refine Calls.mono KF.out ?_
   rintro e w8 ⟨bt,bw,bm,qm,cm,rfl,Et,vk⟩
   have H8:=show Hid (CI w0 w8 w8.heap.size b10 b11 []/\FQ w8 w6.heap.size w8.heap.size bt bw bm q qm cm k b T wb r g L nC (cZ t r g)) from
    ⟨⟨_,_,⟨eX H7.out.2.1 vk H7.out.2.1.lt,⟨rfl,Or.inl ⟨rfl,rfl⟩⟩,eX H7.out.2.2.1 vk H7.out.2.2.1.lt,⟨rfl,Or.inl ⟨rfl,rfl⟩⟩⟩,Nat.le_refl _,H7.out.1.trans (vk.mono H7.out.1.size)⟩,Et,Et.tr.fn⟩
   have MZ:=show Hid (w0.heap.size<=w8.heap.size) from(H7.out.1.trans (vk.mono H7.out.1.size)).size
   clear H7 Et vk KF
   go_wp2_with fail
   refine(wpIn_wide (n:=5)).1 ?_
   refine BA rfl (by omega) (gf:=95) (lb:=#[.pointer (some ⟨bt,0,none⟩),.pointer (some ⟨bw,0,none⟩),.pointer (some ⟨bm,0,none⟩)]) rfl trivial (enters_of Tryz.func95 (by kernel_rfl) rfl) (Bz (5 - 1) (by omega) hr (by decide) (yC t r g) w8 H8.out.2) (Nat.le_refl _) (Below.refl _ _) (fun _=>rfl)
    (fun pre W=>CI w0 W w8.heap.size b10 b11 pre) (fun _ _ _=>False) (V4 MZ.out) (fun _ _ _ _ _ hs _ _=>hs) H8.out.1 ?ab ?done ?stop
   case ab=>
    apply Exists.intro
    refine⟨?assign,?body⟩
    case assign=>
     intro l x W K hK
     gi_wp2
     exact hK
    case body=>
     rintro l pre x W ⟨v1,v2,hB2,BF,hbel⟩ hlt
     have hln:pre.length<=100000:=Nat.le_trans (Nat.le_of_lt hlt) HTL.out
     have HB:=show Hid _ from hB2
     have zH:=show Hid (AC W b10 b11 v1 v2) from hB2.ac
     have xO:=show Hid (w8.heap.size<=W.heap.size/\Below w0.heap.size w0 W) from⟨BF,hbel⟩
     clear hB2 BF hbel hlt
     obtain⟨n,hn⟩:∃ n,n=pre.length:=⟨_,rfl⟩
     obtain⟨xs,hxs⟩:∃ xs,xs=i1 pre:=⟨_,rfl⟩
     obtain⟨ys,hys⟩:∃ ys,ys=i2 pre:=⟨_,rfl⟩
     rw[<- hn,<- hxs,<- hys] at HB
     rw[<- hn] at hln
     have Qx:=show Hid (n=pre.length/\xs=i1 pre/\ys=i2 pre) from⟨hn,hxs,hys⟩
     clear hn hxs hys
     gi_wp2
     refine xg (by kernel_rfl) (by kernel_rfl) (fun h=>h.elim fun a h=>h.elim fun w h=>h) [some 35,some 36,some 37,some 38,some 39,some 40,some 41,some 42,none,none] [[],[],[1],[0,2],[],[],[5],[4,6],[3],[7]] (by kernel_rfl) (fun i v w=>match i with | 0=>v=v1 | 1=>v=.int .i64 x.1 | 2=>wG W x.1 v w | 3=>oz W w8.heap.size 92 v1 (n+1) (xs ++ [Value.int .i64 x.1]) v w | 4=>v=v2 | 5=>v=.int .i64 x.2 | 6=>wG W x.2 v w | 7=>oz W w8.heap.size 3 v2 (n+1) (ys ++ [Value.int .i64 x.2]) v w | 8=>∃ u,Boxed w b10 179 u/\oz W w8.heap.size 92 v1 (n+1) (xs ++ [Value.int .i64 x.1]) u w | 9=>∃ u,Boxed w b11 37 u/\oz W w8.heap.size 3 v2 (n+1) (ys ++ [Value.int .i64 x.2]) u w | _=>True) (fun done w=>SC W w w8.heap.size b10 b11 v1 v2 n xs ys done/\w8.heap.size<=w.heap.size) (fun i w w'=>Kp (xM b10 b11 v1 v2 i) w w') ?hle ?start (dL 10 ?steps) ?fin
     case start=>exact⟨⟨fun _=>⟨HB.out.x1,bD HB.out.o1 (fun _ _=>rfl)⟩,⟨_,HB.out.x1⟩,fun _=>⟨HB.out.x2,bD HB.out.o2 (fun _ _=>rfl)⟩,⟨_,HB.out.x2⟩,(Kp.refl _ _).drew⟩,xO.out.1⟩
     case hle=>exact VY zH.out
     case steps=>
      refine⟨⟨⟨⟨⟨⟨⟨⟨⟨⟨trivial,?s0⟩,?s1⟩,?s2⟩,?s3⟩,?s4⟩,?s5⟩,?s6⟩,?s7⟩,?s8⟩,?s9⟩
      case s0=>
       intro done a w hS h0 hd hn hO hN
       have hc:=(hS.1.s1 (hn 3 (by decide))).1.cell
       have Bp:a.tmps[10]?=some (.pointer (some ⟨b10,0,none⟩)):=outs hO 10 rfl
       refine ah rfl (v1) w rfl (by go_simp) ⟨_,rfl,rfl,⟨hS.1.other 0 (by decide) (Below.refl _ _),hS.2⟩,Kp.refl _ _⟩
      case s1=>
       intro done a w hS h0 hd hn hO hN
       have M0:a.tmps[12]?=some (.int .i64 x.1):=outs hO 12 rfl
       refine ah rfl (.int .i64 x.1) w rfl (by go_simp) ⟨_,rfl,rfl,⟨hS.1.other 1 (by decide) (Below.refl _ _),hS.2⟩,Kp.refl _ _⟩
      case s2=>
       intro done a w hS h0 hd hn hO hN
       obtain⟨v1x,g1,r1⟩:=aj hN 1 36
       obtain rfl:v1x=.int .i64 x.1:=r1
       have hsz:=hS.1.fr.size
       refine ah rfl (.slice (some ⟨w.heap.size,0,none⟩) 1 1) (w.alloc (.cells #[.int .i64 x.1] 92)) rfl (by go_simp) ⟨_,rfl,⟨w.heap.size,rfl,hsz,by rw[World.cell?_alloc_new];rfl⟩,⟨hS.1.other 2 (by decide) (ak w _),by have:=hS.2;simp;omega⟩,Kp.of_below (ak w _)⟩
      case s3=>
       intro done a w hS h0 hd hn hO hN
       obtain⟨v0x,g0,r0⟩:=aj hN 0 35
       have e0:v0x=v1:=r0
       rw[e0] at g0
       obtain⟨v2x,g2,r2⟩:=aj hN 2 37
       obtain⟨q,rfl,hq,hcq⟩:=r2
       obtain⟨hbx,how⟩:=hS.1.s1 h0
       obtain⟨i0,hi,hz0,hz1,hz2⟩:=info_parts Xp
       obtain⟨v',w',hrun,ho',hgr,_,hblk⟩:=run_append_own_at (P:=Tryz.prog) (w:=w) w8.heap.size 179 179 92 i0 _ 1 8 Tryz.underlying179 hi hz0 hz1 hz2 rfl (by decide) v1 n _ how ⟨q,0,none⟩ 1 1 [.int .i64 x.1] rfl (lN hcq) (by intro u hu;simp at hu;subst hu;rfl) (by unfold maxLen;omega) (by omega) hS.2
       refine ah rfl v' w' rfl (by simp[execOp,Act.eval,resolve,invoke,builtin,g0,g2,hrun,Result.andThen]) ⟨_,rfl,⟨ho',fun k hk => ?_⟩,⟨?_,Nat.le_trans hS.2 hgr.size⟩,⟨hgr.os,hgr.tape,hgr.output,hgr.size,fun k hk hn2=>hgr.block k hk (fun e=>hn2 (Or.inl ⟨rfl,e.symm⟩))⟩⟩
       ·rcases hblk with e | e
        ·exact Or.inl (e ▸ hk)
        ·rw[hk] at e;cases e;exact Or.inr hS.1.fr.size
       ·exact hS.1.ZM zH.out hgr
      case s4=>
       intro done a w hS h0 hd hn hO hN
       have hc:=(hS.1.s2 (hn 7 (by decide))).1.cell
       have Bq:a.tmps[11]?=some (.pointer (some ⟨b11,0,none⟩)):=outs hO 11 rfl
       refine ah rfl (v2) w rfl (by go_simp) ⟨_,rfl,rfl,⟨hS.1.other 4 (by decide) (Below.refl _ _),hS.2⟩,Kp.refl _ _⟩
      case s5=>
       intro done a w hS h0 hd hn hO hN
       have YP:a.tmps[13]?=some (.int .i64 x.2):=outs hO 13 rfl
       refine ah rfl (.int .i64 x.2) w rfl (by go_simp) ⟨_,rfl,rfl,⟨hS.1.other 5 (by decide) (Below.refl _ _),hS.2⟩,Kp.refl _ _⟩
      case s6=>
       intro done a w hS h0 hd hn hO hN
       obtain⟨v5x,g5,r5⟩:=aj hN 5 40
       obtain rfl:v5x=.int .i64 x.2:=r5
       have hsz:=hS.1.fr.size
       refine ah rfl (.slice (some ⟨w.heap.size,0,none⟩) 1 1) (w.alloc (.cells #[.int .i64 x.2] 3)) rfl (by go_simp) ⟨_,rfl,⟨w.heap.size,rfl,hsz,by rw[World.cell?_alloc_new];rfl⟩,⟨hS.1.other 6 (by decide) (ak w _),by have:=hS.2;simp;omega⟩,Kp.of_below (ak w _)⟩
      case s7=>
       intro done a w hS h0 hd hn hO hN
       obtain⟨v4x,g4,r4⟩:=aj hN 4 39
       have e4:v4x=v2:=r4
       rw[e4] at g4
       obtain⟨v6x,g6,r6⟩:=aj hN 6 41
       obtain⟨q,rfl,hq,hcq⟩:=r6
       obtain⟨hbx,how⟩:=hS.1.s2 h0
       obtain⟨i0,hi,hz0,hz1,hz2⟩:=info_parts Xq
       obtain⟨v',w',hrun,ho',hgr,_,hblk⟩:=run_append_own_at (P:=Tryz.prog) (w:=w) w8.heap.size 37 37 3 i0 _ 1 8 Tryz.underlying37 hi hz0 hz1 hz2 rfl (by decide) v2 n _ how ⟨q,0,none⟩ 1 1 [.int .i64 x.2] rfl (lN hcq) (by intro u hu;simp at hu;subst hu;rfl) (by unfold maxLen;omega) (by omega) hS.2
       refine ah rfl v' w' rfl (by simp[execOp,Act.eval,resolve,invoke,builtin,g4,g6,hrun,Result.andThen]) ⟨_,rfl,⟨ho',fun k hk => ?_⟩,⟨?_,Nat.le_trans hS.2 hgr.size⟩,⟨hgr.os,hgr.tape,hgr.output,hgr.size,fun k hk hn2=>hgr.block k hk (fun e=>hn2 (Or.inr (Or.inl ⟨rfl,e.symm⟩)))⟩⟩
       ·rcases hblk with e | e
        ·exact Or.inl (e ▸ hk)
        ·rw[hk] at e;cases e;exact Or.inr hS.1.fr.size
       ·exact hS.1.ZN zH.out hgr
      case s8=>
       intro done a w hS h0 hd hn hO hN
       obtain⟨Qy,g3,r3⟩:=aj hN 3 38
       have Bp:a.tmps[10]?=some (.pointer (some ⟨b10,0,none⟩)):=outs hO 10 rfl
       obtain⟨u0,hu0⟩:=hS.1.e1
       have hq:(Instr.storeAt 179 (.pointer (some ⟨b10,0,none⟩)) Qy).run Tryz.prog w=.ok () (w.setRow b10 #[Qy]):=st1 hu0 VW (wQ r3.1)
       refine ny rfl rfl 179 (.tmp 10) (.tmp 38) rfl (by simp[Act.eval,Bp]) (by simp[Act.eval,g3]) hq ⟨undef,rfl,⟨Qy,setRow_heap w b10 _ _ _ _ hu0,bD r3.1 (fun k hk=>setRow_other w b10 k _ ?_),r3.2⟩,⟨hS.1.ZO zH.out (hd 3 (by decide)) hu0 Qy,by simpa using hS.2⟩,⟨rfl,rfl,rfl,by simp,fun k _ hk=>setRow_other w b10 k _ (fun e=>hk (Or.inr (Or.inr (Or.inl ⟨rfl,e⟩))))⟩⟩
       rintro rfl
       rcases r3.2 _ hk with e | e
       ·exact zH.out.a1.1 e
       ·have:=zH.out.l10;omega
      case s9=>
       intro done a w hS h0 hd hn hO hN
       obtain⟨Qz,g7,r7⟩:=aj hN 7 42
       have Bq:a.tmps[11]?=some (.pointer (some ⟨b11,0,none⟩)):=outs hO 11 rfl
       obtain⟨u0,hu0⟩:=hS.1.e2
       have hq:(Instr.storeAt 37 (.pointer (some ⟨b11,0,none⟩)) Qz).run Tryz.prog w=.ok () (w.setRow b11 #[Qz]):=st1 hu0 VX (wQ r7.1)
       refine ny rfl rfl 37 (.tmp 11) (.tmp 42) rfl (by simp[Act.eval,Bq]) (by simp[Act.eval,g7]) hq ⟨undef,rfl,⟨Qz,setRow_heap w b11 _ _ _ _ hu0,bD r7.1 (fun k hk=>setRow_other w b11 k _ ?_),r7.2⟩,⟨hS.1.ZP zH.out (hd 7 (by decide)) hu0 Qz,by simpa using hS.2⟩,⟨rfl,rfl,rfl,by simp,fun k _ hk=>setRow_other w b11 k _ (fun e=>hk (Or.inr (Or.inr (Or.inr ⟨rfl,e⟩))))⟩⟩
       rintro rfl
       rcases r7.2 _ hk with e | e
       ·exact zH.out.a2.2 e
       ·have:=zH.out.YM;omega
     case fin=>
      intro vs done w hdone hS hR
      obtain⟨u1,hu1,ho1,_⟩:=hR 8 (by decide)
      obtain⟨u2,hu2,ho2,_⟩:=hR 9 (by decide)
      obtain⟨hKQ,hKO⟩:=MX HB.out hS.1.fr nW.out.1 nW.out.2.1 xO.out.1
      have hbw:Below w0.heap.size w0 w:=by
       have h:=hS.1.fr
       refine⟨h.os.trans xO.out.2.os,h.tape.trans xO.out.2.tape,h.output.trans xO.out.2.output,Nat.le_trans xO.out.2.size h.size,fun k hk=>(h.block k (Nat.lt_of_lt_of_le hk xO.out.2.size) ?_).trans (xO.out.2.block k hk)⟩
       have e8:=MZ.out
       rintro(e | e | e | e)
       ·have:=(aP HB.out.o1 k e).1;omega
       ·have:=(aP HB.out.o2 k e).1;omega
       ·have:=nW.out.2.2.1;omega
       ·have:=nW.out.2.2.2;omega
      refine⟨hKO.from _,hKQ,u1,u2,⟨hu1,?_,hu2,?_⟩,hS.2,hbw⟩
      ·have e1:(pre ++ [x]).length=n+1:=by rw[Qx.out.1];simp
       have e2:i1 (pre ++ [x])=xs ++ [Value.int .i64 x.1]:=by rw[Qx.out.2.1];simp[i1]
       rw[e1,e2]
       exact ho1
      ·have e1:(pre ++ [x]).length=n+1:=by rw[Qx.out.1];simp
       have e2:i2 (pre ++ [x])=ys ++ [Value.int .i64 x.2]:=by rw[Qx.out.2.2];simp[i2]
       rw[e1,e2]
       exact ho2
   case done=>
    rintro D ys W hD rfl ⟨v1,v2,hB2,BF,hbel⟩ hK
    have c10:=hB2.x1.cell
    have c11:=hB2.x2.cell
    have HB:=show Hid _ from hB2
    have xO:=show Hid (w8.heap.size<=W.heap.size/\Below w0.heap.size w0 W) from⟨BF,hbel⟩
    clear hB2 BF hbel
    go_wp2_with fail
    go_region
    go_wp2_with fail
    have hK':W.drew.heap[D]?=some (.deferred (some [])):=hK
    have hDw:w0.heap.size<=D:=Nat.le_trans MZ.out hD
    refine⟨by simp,.inl ⟨_,_,rfl,run_takeDeferred hK',?_⟩⟩
    refine⟨_,qp rfl _ _,v1,v2,rfl,lT (ownsRow_putObj (bD HB.out.o1 (fun _ _=>rfl)) _ hK' rfl) MZ.out,lT (ownsRow_putObj (bD HB.out.o2 (fun _ _=>rfl)) _ hK' rfl) MZ.out,Bv xO.out.2.drew hDw (lt_of_block hK') _⟩
   case stop=>
    rintro D c pre W _ _ h _
    exact h.elim
  ·obtain rfl:cf=[]:=by rw[He.out,if_neg (fun h=>hk h.2)]
   have hkb:(af.1 != 14)=true:=by simpa using hk
   clear He hk
   go_wp2_with fail
   exact⟨_,qp rfl _ _,_,_,rfl,Qw.out _ _,Qw.out _ _,H2.out.av⟩
 ·obtain rfl:cf=[]:=by rw[He.out,if_neg (fun h=>hz h.1)]
  have hzb:(rq != 0)=true:=by simpa using hz
  clear He hz
  go_wp2_with fail
  all_goals exact⟨_,qp rfl _ _,_,_,rfl,Qw.out _ _,Qw.out _ _,H2.out.av⟩
end Go.Proofs.YtkpbpecikibohaaGreatDoor

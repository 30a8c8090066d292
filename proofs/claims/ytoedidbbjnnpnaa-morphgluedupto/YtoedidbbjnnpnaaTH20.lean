/-
  Classes: of any model. No condition but what a machine can hold.
-/
import Derived.Test.YtoedidbbjnnpnaaTH19
import Derived.Test.YtoedidbbjnnpnaaQWTidy
import Derived.Test.YtoedidbbjnnpnaaTH15
import Derived.Test.YtoedidbbjnnpnaaTH17
namespace Go.Proofs.Ytoedidbbjnnpnaa.Wm
open Go.RowKit Go.Maps
open Wd (Md Rc Ed upd vl allW)
set_option linter.unusedSimpArgs false
set_option linter.unusedVariables false
def tdM (m:Md) (M:Nat→Nat→Bool):Md:=⟨tdU M m.up.length m.up.length,m.val⟩
theorem tdM_len (m:Md) (M:Nat→Nat→Bool):(tdM m M).up.length=m.up.length:=tdU_len _ _ _
theorem tdM_rc {m:Md} {M:Nat→Nat→Bool} (hO:IsO m.up M) (hG:Wd.Good m) (a b:Nat):Rc (tdM m M).up a b ↔ Rc m.up a b:=(isO_td hO hG a b).symm.trans (hO a b)
theorem ClsP.cong {m m':Md} {cls:Nat→Nat} (h:ClsP m' cls) (hu:m'.up.length=m.up.length) (hv:m'.val=m.val) (hr:∀ a b,Rc m'.up a b ↔ Rc m.up a b):ClsP m cls:=by
 have hvl:∀ a,vl m' a=vl m a:=fun a=>by unfold vl;rw [hv]
 have hs:∀ a c,Sees m cls a c ↔ Sees m' cls a c:=fun a c=>⟨fun ⟨x,h1,h2⟩=>⟨x,(hr _ _).2 h1,h2⟩,fun ⟨x,h1,h2⟩=>⟨x,(hr _ _).1 h1,h2⟩⟩
 refine ⟨by rw [← hu];exact h.canon,fun a b ha hb e => ?_,fun a b ha hb e c hc=>(hs b c).2 (h.sees a b (by omega) (by omega) e c ((hs a c).1 hc)),fun B hB=>h.coarse B ⟨fun a b hab=>by rw [hu];exact hB.lt a b hab,fun a b hab=>by rw [hvl,hvl];exact hB.val a b hab,fun a b hab x hx => ?_,fun a b hab y hy => ?_⟩⟩
 ·rw [← hvl,← hvl];exact h.val a b (by omega) (by omega) e
 ·obtain ⟨y,h1,h2⟩:=hB.to a b hab x ((hr _ _).1 hx)
  exact ⟨y,(hr _ _).2 h1,h2⟩
 ·obtain ⟨x,h1,h2⟩:=hB.back a b hab y ((hr _ _).1 hy)
  exact ⟨x,(hr _ _).2 h1,h2⟩
def ClsR (w':World) (B:Nat) (m:Md) (v:Value) (er:Int):Prop :=
 (¬ Wd.Good m∧er=170∧v=.slice none 0 0)∨(Wd.Good m∧er=0∧∃ E,OwnI B w' v ((List.range m.up.length).map (cnF E))∧Eqv E∧ClsP m (cnF E))
theorem tidied {m:Md} {M:Nat→Nat→Bool} {B:Nat} {w':World} {u v:Value} (hO:IsO m.up M) (hf:Fit m) (hG:Wd.Good m) (hU:RowsZ B w' u (tdU M m.up.length m.up.length)) (hV:RowsN B w' v m.val) :
 IsM w' w'.heap.size u v (tdM m M)∧Fit (tdM m M)∧Wd.Good (tdM m M):=⟨⟨hU.isU,hV.isV⟩,fit_td hf (Wd.shaped_and hG.shape).2.1,good_td hO hG⟩
set_option maxRecDepth 100000 in
set_option maxHeartbeats 8000000 in
theorem topClasses_any (w:World) {M:Nat→Nat→Bool} {L:Nat} {uv vv:Value} {m:Md} (hO:IsO m.up M) (hm:IsM w L uv vv m) (hf:Fit m) (hL:L≤w.heap.size) (hfv:∀ r ∈ m.val,r.length * 16≤140737488355328) :
 Calls Try.prog 15 #[.agg #[uv,vv]] w fun e w'=>∃ v er,e=.returned (.tuple #[v,.int .i64 er])∧ClsR w' w.heap.size m v er∧Below w.heap.size w w':=by
 have HK:=show Hid (∀ W,Below w.heap.size w W→Calls Try.prog 33 #[.agg #[uv,vv]] W _) from fun W hW=>tidy_any W hO (hm.below (hW.mono hL)) hf (Nat.le_trans hL hW.size) hfv
 have HF:=show Hid (IsO m.up M∧Fit m) from ⟨hO,hf⟩
 clear hm hf hO hfv
 go_enter Try.func15,Try.ntmps15
 go_wp2_with (refine wpList_box 25 _ rfl _ rfl rfl ?_)
 intro w1 b1 hN1
 have H1:=show Hid (Below w.heap.size w w1∧Cl w1 b1 #[uv,vv] 25) from ⟨hN1.bel,hN1.blk⟩
 clear hN1
 go_wp2_with (refine wpList_ldw 25 _ rfl b1 rfl _ _ H1.out.2 rfl Try.underlying25 sizeM rfl ?_)
 refine Calls.mono (HK.out w1 H1.out.1) ?_
 rintro e w2 ⟨u',v',er,rfl,hR,hb2⟩
 have H2:=show Hid (Below w.heap.size w w2∧((¬ Wd.Good m∧er=170∧u'=.slice none 0 0∧v'=.slice none 0 0)∨(Wd.Good m∧er=0∧RowsZ w1.heap.size w2 u' (tdU M m.up.length m.up.length)∧RowsN w1.heap.size w2 v' m.val))) from ⟨H1.out.1.trans (hb2.mono H1.out.1.size),hR⟩
 obtain ⟨pt,nt,ct,rfl⟩:∃ p n c,u'=.slice p n c:=by
  rcases hR with ⟨_,_,rfl,_⟩ | ⟨_,_,⟨xs,h1,_⟩,_⟩
  ·exact ⟨_,_,_,rfl⟩
  ·obtain ⟨p,c,e⟩:=own_form h1;exact ⟨p,_,c,e⟩
 obtain ⟨pz,nz,cz,rfl⟩:∃ p n c,v'=.slice p n c:=by
  rcases hR with ⟨_,_,_,rfl⟩ | ⟨_,_,_,⟨xs,h1,_⟩⟩
  ·exact ⟨_,_,_,rfl⟩
  ·obtain ⟨p,c,e⟩:=own_form h1;exact ⟨p,_,c,e⟩
 clear hR hb2 H1 HK
 go_wp2_with (refine wpList_alloc 25 rfl _ zero_md rfl ?_)
 intro w3 b4 hn3
 go_wp2_with (refine wpList_st 25 rfl rfl _ _ rfl b4 rfl _ rfl _ _ hn3.blk sizeM rfl (by simp [Value.oneCell']) ?_)
 intro w4 hc4 hk4
 have H4:=show Hid (Below w2.heap.size w2 w4∧Cl w4 b4 #[.slice pt nt ct,.slice pz nz cz] 25) from by
  have hge:=hn3.ge
  exact ⟨hn3.bel.trans (hk4.below hn3.bel.size fun k e=>by omega),hc4⟩
 clear hn3 hc4 hk4
 rcases H2.out.2 with ⟨g,rfl,e1,e2⟩ | ⟨g,rfl,hU,hV⟩
 ·have HX:=show Hid (¬ Wd.Good m∧Below w.heap.size w w4) from ⟨g,H2.out.1.trans (H4.out.1.mono H2.out.1.size)⟩
  clear g e1 e2 H2 H4
  go_wp2_with fail
  go_ret2
  exact ⟨_,_,rfl,Or.inl ⟨HX.out.1,rfl,rfl⟩,HX.out.2⟩
 ·obtain ⟨t1,t2,t3⟩:=tidied HF.out.1 HF.out.2 g hU hV
  have HX:=show Hid (Wd.Good m∧Below w.heap.size w w4) from ⟨g,H2.out.1.trans (H4.out.1.mono H2.out.1.size)⟩
  have KC:=show Hid _ from classes_any w4 (t1.below H4.out.1) t2 t3 H4.out.1.size
  clear t1 t2 t3 g hU hV H2
  go_wp2_with (refine wpList_ldw 25 _ rfl b4 rfl _ _ H4.out.2 rfl Try.underlying25 sizeM rfl ?_)
  refine Calls.mono KC.out ?_
  rintro e w5 ⟨v,E,rfl,h1,h2,h3,h4⟩
  have HY:=show Hid (ClsR w5 w.heap.size m v 0∧Below w.heap.size w w5) from ⟨Or.inr ⟨HX.out.1,rfl,E,by
   rw [tdM_len] at h1
   exact h1.base HX.out.2.size,h2,h3.cong (tdM_len m M) rfl (tdM_rc HF.out.1 HX.out.1)⟩,HX.out.2.trans (h4.mono HX.out.2.size)⟩
  clear h1 h2 h3 h4 KC HX
  go_wp2_with fail
  go_ret2
  exact ⟨_,_,rfl,HY.out⟩
end Go.Proofs.Ytoedidbbjnnpnaa.Wm
/-
  A model under way, at a box: a row more, by a statement that draws its order. No condition.
-/
namespace Go.Proofs.Ytoedidbbjnnpnaa.Wm
open Go.RowKit Go.Maps
open Wd (Md Rc Ed upd vl allW)
set_option linter.unusedSimpArgs false
set_option linter.unusedVariables false
def KT (T T':TypeId) (W W':World):Prop:=∀ (k:Nat) (cs:Array Value) (t:TypeId),t≠T→t≠T'→W.heap[k]?=some (.cells cs t (0,0))→W'.heap[k]?=W.heap[k]?
theorem KT.refl (T T':TypeId) (W:World):KT T T' W W:=fun _ _ _ _ _ _=>rfl
theorem KT.of_below {T T':TypeId} {W W':World} (h:Below W.heap.size W W'):KT T T' W W':=fun k _ _ _ _ hc=>h.block k (lt_of_block hc)
theorem KT.of_grow {B n:Nat} {T T':TypeId} {v:Value} {xs:List Value} {W W':World} (h1:W.ownsRow B T 1 v n xs) (hg:W.grownBy W' v.ownBlock):KT T T' W W':=fun k cs t ht _ hb=>hg.block k (lt_of_block hb) fun e=>by
 obtain ⟨_,_,cur,h9⟩:=own_blk h1 e.symm
 have h8:=h9.symm.trans hb
 injection h8 with h7
 injection h7 with _ h6
 exact ht h6.symm
theorem KT.of_set {T:TypeId} {b j:Nat} {cs:Array Value} {x:Value} {W:World} (h:Cl W b cs 25):KT T 25 W (W.setCell ⟨b,j,none⟩ x):=fun k cs' t _ ht hb=>Below.heap_setCell W ⟨b,j,none⟩ x k fun (e:k=b)=>by
 subst e
 have h8:=(show W.heap[k]?=_ from h).symm.trans hb
 injection h8 with h7
 injection h7 with _ h6
 exact ht h6.symm
theorem KT.own {T T' e:TypeId} {B n:Nat} {v:Value} {xs:List Value} {W W':World} (h:KT T T' W W') (h1:e≠T) (h2:e≠T') (ho:W.ownsRow B e 1 v n xs):W'.ownsRow B e 1 v n xs:=own_kp ho fun k cs _ hc _=>h k cs e h1 h2 hc
section
variable {W0 W W':World} {b j n B:Nat} {T:TypeId} {v0 v:Value} {xs:List Value} {PX:Value→World→Prop}
def FinG (W0:World) (b j B n:Nat) (T:TypeId) (v0:Value) (xs:List Value) (PX:Value→World→Prop) (W:World):Prop :=
 ∃ x v W1 W2,Below W0.heap.size W0 W1∧PX x W1∧W1.grownBy W2 v0.ownBlock∧W2.ownsRow B T 1 v (n+1) (xs ++ [x])∧W=W2.setCell ⟨b,j,none⟩ v
def SG (pa ps:Nat) (W0:World) (b j B n:Nat) (T:TypeId) (cs:Array Value) (v0:Value) (xs:List Value) (PX:Value→World→Prop) (done:Nat→Bool) (W:World):Prop :=
 (done pa=false→Below W0.heap.size W0 W)∧(done ps=false→Cl W b cs 25)∧(done ps=true→FinG W0 b j B n T v0 xs PX W)
def LG (pc pb pa ps:Nat) (b j:Nat) (T:TypeId) (v0:Value) (i:Nat) (W W':World):Prop :=
 KT T 25 W W'∧(i=pa→W.grownBy W' v0.ownBlock)∧(i=ps→W'.cell? ⟨b,j,none⟩≠some v0∧∀ k,k≠b→W'.heap[k]?=W.heap[k]?)∧(i≠pa→i≠ps→Below W.heap.size W W')∧(i≠pc→i≠pb→i≠pa→i≠ps→W'=W)
def NqG (b:Nat) (T:TypeId) (v0:Value) (PX:Value→World→Prop) (v:Value) (W:World):Prop:=∃ q x,v=.slice (some ⟨q,0,none⟩) 1 1∧q≠b∧v0.ownBlock≠some q∧Cl W q #[x] T∧PX x W∧x.oneCell'=true
def GwG (W0:World) (b j B n:Nat) (T:TypeId) (v0:Value) (xs:List Value) (PX:Value→World→Prop) (v:Value) (W:World):Prop :=
 ∃ x W1 W2,Below W0.heap.size W0 W1∧PX x W1∧W1.grownBy W2 v0.ownBlock∧W2.ownsRow B T 1 v (n+1) (xs ++ [x])∧(W=W2∨W.cell? ⟨b,j,none⟩≠some v0)
variable {pc pb pa ps i:Nat}
theorem nqG_le (kx:∀ x W W',KT T 25 W W'→PX x W→PX x W') (hl:LG pc pb pa ps b j T v0 i W W') (h:NqG b T v0 PX v W):NqG b T v0 PX v W':=by
 obtain ⟨q,x,e,h1,h2,h3,h4,h5⟩:=h
 refine ⟨q,x,e,h1,h2,?_,kx x W W' hl.1 h4,h5⟩
 by_cases ea:i=pa
 ·exact ((hl.2.1 ea).block q h3.lt fun e=>h2 e.symm).trans h3
 ·by_cases es:i=ps
  ·exact ((hl.2.2.1 es).2 q h1).trans h3
  ·exact h3.later (hl.2.2.2.1 ea es)
theorem gwG_le (hc:i≠pc) (hb:i≠pb) (ha:i≠pa) (hl:LG pc pb pa ps b j T v0 i W W') (h:GwG W0 b j B n T v0 xs PX v W):GwG W0 b j B n T v0 xs PX v W':=by
 obtain ⟨x,W1,W2,h1,h2,h3,h4,h5⟩:=h
 refine ⟨x,W1,W2,h1,h2,h3,h4,?_⟩
 by_cases es:i=ps
 ·exact Or.inr (hl.2.2.1 es).1
 ·rw [hl.2.2.2.2 hc hb ha es];exact h5
theorem LG.same (ha:i≠pa) (hs:i≠ps):LG pc pb pa ps b j T v0 i W W :=
 ⟨KT.refl _ _ _,fun e=>absurd e ha,fun e=>absurd e hs,fun _ _=>Below.refl _ _,fun _ _ _ _=>rfl⟩
theorem LG.made (ha:i≠pa) (hs:i≠ps) (hp:i=pc∨i=pb) (h:Below W.heap.size W W'):LG pc pb pa ps b j T v0 i W W' :=
 ⟨KT.of_below h,fun e=>absurd e ha,fun e=>absurd e hs,fun _ _=>h,fun h1 h2 _ _=>(hp.elim h1 h2).elim⟩
theorem LG.grew (has:pa≠ps) (h1:W.ownsRow B T 1 v0 n xs) (hg:W.grownBy W' v0.ownBlock):LG pc pb pa ps b j T v0 pa W W' :=
 ⟨KT.of_grow h1 hg,fun _=>hg,fun e=>absurd e has,fun h=>absurd rfl h,fun _ _ h=>absurd rfl h⟩
end
section
variable {w0 W W':World} {L b:Nat} {uv vv:Value} {up:List (List Int)} {val:List (List ByteArray)}
def RowsI (w0:World) (L B:Nat) (w:World) (v:Value) (ls:List (List ByteArray)):Prop:=∃ xs:List Value,w.ownsRow B 34 1 v ls.length xs∧∀ (i:Nat) (hi:i<ls.length),∃ x,xs[i]?=some x∧IsN w0 L x ls[i]
structure PT (w0 W:World) (L b:Nat) (uv vv:Value) (up:List (List Int)) (val:List (List ByteArray)):Prop where
 box:Cl W b #[uv,vv] 25
 up:RowsZ w0.heap.size W uv up
 val:RowsI w0 L w0.heap.size W vv val
 kp:Kp (fun k=>k=b) w0 W
theorem PT.later (h:PT w0 W L b uv vv up val) (hb:Below W.heap.size W W'):PT w0 W' L b uv vv up val:=by
 obtain ⟨xs,h1,h2⟩:=h.val
 refine ⟨h.box.later hb,h.up.keep (St.of_below hb),⟨xs,own_later h1 hb,h2⟩,(h.kp.trans (Kp.of_below (S:=fun k=>k=b) hb) fun _ e=>Or.inl e)⟩
theorem kp_grow {B n:Nat} {e:TypeId} {v:Value} {xs:List Value} {W1 W2:World} (hk:Kp (fun k=>k=b) w0 W1) (h1:W1.ownsRow B e 1 v n xs) (hB:w0.heap.size≤B) (hg:W1.grownBy W2 v.ownBlock):Kp (fun k=>k=b) w0 W2 :=
 ⟨hg.os.trans hk.os,hg.tape.trans hk.tape,hg.output.trans hk.output,Nat.le_trans hk.size hg.size,fun k hl hn=>(hg.block k (Nat.lt_of_lt_of_le hl hk.size) fun e=>by have:=(own_blk h1 e.symm).1;omega).trans (hk.block k hl hn)⟩
theorem PT.upS {W0:World} {row:List Int} {xs:List Value} (h:PT w0 W0 L b uv vv up val) (hb:b<w0.heap.size) (h1:W0.ownsRow w0.heap.size 27 1 uv up.length xs) (h2:∀ (i:Nat) (hi:i<up.length),∃ x,xs[i]?=some x∧OwnZ w0.heap.size W0 x up[i])
 (hf:FinG W0 b 0 w0.heap.size up.length 27 uv xs (fun x W=>OwnZ W0.heap.size W x row) W):∃ u',PT w0 W L b u' vv (up ++ [row]) val:=by
 obtain ⟨x,v,W1,W2,hb1,hx,hg,ho,rfl⟩:=hf
 have hp:=h.later hb1
 have k1:=own_later h1 hb1
 have hrow:=RowsZ.snoc k1 (fun i hi=>by obtain ⟨x,e,o⟩:=h2 i hi;exact ⟨x,e,own_later o hb1⟩) (own_base hx h.kp.size) ho hg
 obtain ⟨ys,y1,y2⟩:=hp.val
 have hbox:Cl W2 b #[uv,vv] 25:=(grow_old k1 hg hb (hp.kp.size)).trans hp.box
 have hset:Kp (fun k=>k=b) W2 (W2.setCell ⟨b,0,none⟩ v):=(Kp.refl (fun k=>k=b) W2).set (p:=b) rfl 0 v
 refine ⟨v,heap_setCell_same W2 b 0 _ _ _ hbox,hrow.keep (St.of_kp hset hb),⟨ys,?_,y2⟩,(kp_grow hp.kp k1 (Nat.le_refl _) hg).trans hset fun _ e=>Or.inl e⟩
 exact own_kp (own_kp y1 fun k cs _ hc _=>hg.block k (lt_of_block hc) fun e=>by
  obtain ⟨_,_,cur,h9⟩:=own_blk k1 e.symm
  have h8:=h9.symm.trans hc
  injection h8 with h7
  injection h7 with _ h6
  exact absurd h6 (by decide)) fun k cs hk hc _=>hset.block k (lt_of_block hc) (by omega)
theorem PT.valS {W0:World} {row:List ByteArray} {xs:List Value} {xr:Value} (h:PT w0 W0 L b uv vv up val) (hb:b<w0.heap.size) (h1:W0.ownsRow w0.heap.size 34 1 vv val.length xs) (h2:∀ (i:Nat) (hi:i<val.length),∃ x,xs[i]?=some x∧IsN w0 L x val[i]) (hr:IsN w0 L xr row)
 (hf:FinG W0 b 1 w0.heap.size val.length 34 vv xs (fun x _=>x=xr) W):∃ v',PT w0 W L b uv v' up (val ++ [row]):=by
 obtain ⟨x,v,W1,W2,hb1,rfl,hg,ho,rfl⟩:=hf
 have hp:=h.later hb1
 have k1:=own_later h1 hb1
 have hlen:xs.length=val.length:=by have:=h1.1;omega
 have hbox:Cl W2 b #[uv,vv] 25:=(grow_old k1 hg hb (hp.kp.size)).trans hp.box
 have hset:Kp (fun k=>k=b) W2 (W2.setCell ⟨b,1,none⟩ v):=(Kp.refl (fun k=>k=b) W2).set (p:=b) rfl 1 v
 refine ⟨v,heap_setCell_same W2 b 1 _ _ _ hbox,(hp.up.keep (St.of_grow k1 hg (by decide) (by decide))).keep (St.of_kp hset hb),⟨xs ++ [x],?_,fun i hi => ?_⟩,(kp_grow hp.kp k1 (Nat.le_refl _) hg).trans hset fun _ e=>Or.inl e⟩
 ·rw [List.length_append,List.length_singleton]
  exact own_kp ho fun k cs hk hc _=>hset.block k (lt_of_block hc) (by omega)
 ·by_cases e:i<val.length
  ·obtain ⟨y,hy,hyo⟩:=h2 i e
   exact ⟨y,by rw [List.getElem?_append_left (by omega)];exact hy,by rw [List.getElem_append_left e];exact hyo⟩
  ·have e2:i=val.length:=by simp at hi;omega
   subst e2
   exact ⟨x,by rw [List.getElem?_append_right (by omega),hlen];simp,by simpa using hr⟩
theorem PT.isM (h:PT w0 W L b uv vv up val) (hL:L≤b) (hb:b<w0.heap.size):IsM W W.heap.size uv vv ⟨up,val⟩:=by
 refine ⟨h.up.isU,?_⟩
 obtain ⟨xs,h1,h2⟩:=h.val
 have hsz:=h.kp.size
 have hk:∀ k,k<L→W.heap[k]?=w0.heap[k]?:=fun k hk=>h.kp.block k (by omega) (by omega)
 rcases h1.2 with ⟨rfl,h0⟩ | ⟨g,cap,cur,rfl,hg,hh,_⟩
 ·have h0:val.length=0:=h0
  obtain rfl:val=[]:=List.eq_nil_of_length_eq_zero h0
  exact ⟨_,_,rfl,fun h=>absurd h (by simp)⟩
 ·refine ⟨_,_,rfl,fun h0=>⟨g,0,lt_of_block hh,rfl,fun k hk' => ?_⟩⟩
  have hk2:k<val.length:=hk'
  have hc:=h1.cellAt k (by omega)
  obtain ⟨x,hx,ho⟩:=h2 k hk'
  rw [Nat.zero_add]
  exact ⟨x,hc.trans hx,IsS.wide (IsN.keep ho hk) (by omega)⟩
end
end Go.Proofs.Ytoedidbbjnnpnaa.Wm
/-
  The model of the worlds above one (plain).
-/
namespace Go.Proofs.Ytoedidbbjnnpnaa.Wm
open Go.RowKit Go.Maps
open Wd (Md Rc Ed upd vl allW inW)
set_option linter.unusedSimpArgs false
set_option linter.unusedVariables false
theorem nd_inj {l:List Nat} (hn:l.Nodup) {i j:Nat} {hi:i<l.length} {hj:j<l.length} (h:l[i]=l[j]):i=j:=by
 have hp:=List.pairwise_iff_getElem.1 hn
 rcases Nat.lt_trichotomy i j with h1 | h1 | h1
 ·exact absurd h (hp i j hi hj h1)
 ·exact h1
 ·exact absurd h.symm (hp j i hj hi h1)
def plF (l:List Nat):Nat→Nat→Nat
 | 0=>fun _=>0
 | j+1=>upd (plF l j) (l.getD j 0) j
theorem plF_at {l:List Nat} (hn:l.Nodup):∀ {j i:Nat} (hij:i<j) (hj:j≤l.length),plF l j (l[i]'(by omega))=i
 | j+1,i,hij,hj=>by
  show upd (plF l j) (l.getD j 0) j (l[i]'(by omega))=i
  have e:l.getD j 0=l[j]'(by omega):=by rw [List.getD_eq_getElem?_getD,List.getElem?_eq_getElem (by omega)];rfl
  rw [e]
  by_cases h:i=j
  ·subst h;exact Wd.upd_same _ _ _
  ·rw [Wd.upd_other _ _ _ (fun e2=>h (nd_inj hn e2))]
   exact plF_at hn (by omega) (by omega)
def abU (m:Md) (l:List Nat):List (List Int):=l.map fun v=>(m.up.getD v []).map fun u:Int=>(plF l l.length u.toNat:Int)
def abM (m:Md) (l:List Nat):Md:=⟨abU m l,l.map (vl m)⟩
def AbmR (w':World) (B:Nat) (m:Md) (M:Nat→Nat→Bool) (a:Int) (u' v' lv:Value) (er:Int):Prop :=
 (¬ Wd.Good m∧er=170∧u'=.slice none 0 0∧v'=.slice none 0 0∧lv=.slice none 0 0) ∨
 (Wd.Good m∧inW m.up.length a=false∧er=2∧u'=.slice none 0 0∧v'=.slice none 0 0∧lv=.slice none 0 0) ∨
 (Wd.Good m∧inW m.up.length a=true∧er=0∧∃ l,l=numsTo (fun x=>M a.toNat x.toNat) m.up.length∧OwnI B w' lv l∧RowsZ B w' u' (tdU (fun i j=>M (l.getD i 0) (l.getD j 0)) l.length l.length)∧RowsN B w' v' (l.map (vl m)))
section
variable {m:Md} {M:Nat→Nat→Bool} {l:List Nat} {a:Nat} (hO:IsO m.up M) (hG:Wd.Good m) (ha:a<m.up.length) (hl:l=numsTo (fun x=>M a x.toNat) m.up.length)
theorem ab_mem {v:Nat} (hl:l=numsTo (fun x=>M a x.toNat) m.up.length):v ∈ l ↔ v<m.up.length∧M a v=true:=by
 rw [hl]
 unfold numsTo
 rw [List.mem_filter,List.mem_range]
 simp
theorem ab_nodup (hl:l=numsTo (fun x=>M a x.toNat) m.up.length):l.Nodup:=by
 rw [hl]
 unfold numsTo
 exact List.Pairwise.filter _ List.nodup_range
include hO hG hl
theorem ab_ed {i j:Nat}:Ed (abM m l).up i j ↔ ∃ (hi:i<l.length) (hj:j<l.length),Ed m.up l[i] l[j]:=by
 have hrow:=(Wd.shaped_and hG.shape).2.2.2.1
 constructor
 ·rintro ⟨r,hr,hb⟩
  show ∃ (hi:i<l.length) (hj:j<l.length),Ed m.up l[i] l[j]
  have hi:i<l.length:=by
   rcases Nat.lt_or_ge i l.length with h | h
   ·exact h
   ·rw [show (abM m l).up=abU m l from rfl,List.getElem?_eq_none (by simp [abU];exact h)] at hr
    cases hr
  have e:(abM m l).up[i]?=some ((m.up.getD l[i] []).map fun u:Int=>(plF l l.length u.toNat:Int)):=by
   show (abU m l)[i]?=_
   unfold abU
   rw [List.getElem?_map,List.getElem?_eq_getElem hi];rfl
  rw [e] at hr
  cases hr
  obtain ⟨u,hu,hub⟩:=List.mem_map.1 hb
  have hvi:=(ab_mem hl).1 (List.getElem_mem hi)
  have hup:m.up[l[i]]?=some (m.up.getD l[i] []):=by
   rw [List.getD_eq_getElem?_getD,List.getElem?_eq_getElem hvi.1];rfl
  have hin:=hrow _ (List.mem_of_getElem? hup)
  have hui:inW m.up.length u=true:=List.all_eq_true.1 hin u hu
  unfold inW at hui
  simp only [Bool.and_eq_true,decide_eq_true_eq] at hui
  obtain ⟨y,rfl⟩:=Int.eq_ofNat_of_zero_le hui.1
  have hed:Ed m.up l[i] y:=⟨_,hup,hu⟩
  have hay:M a y=true:=(hO _ _).2 (((hO _ _).1 hvi.2).trans (.one hed))
  have hym:y ∈ l:=(ab_mem hl).2 ⟨by omega,hay⟩
  obtain ⟨k,hk,rfl⟩:=List.mem_iff_getElem.1 hym
  rw [Int.toNat_natCast,plF_at (ab_nodup hl) hk (Nat.le_refl _)] at hub
  have:k=j:=by omega
  subst this
  exact ⟨hi,hk,hed⟩
 ·rintro ⟨hi,hj,r,hr,hb⟩
  refine ⟨(m.up.getD l[i] []).map fun u:Int=>(plF l l.length u.toNat:Int),?_,?_⟩
  ·show (abU m l)[i]?=_
   unfold abU
   rw [List.getElem?_map,List.getElem?_eq_getElem hi];rfl
  ·refine List.mem_map.2 ⟨(l[j]:Int),?_,?_⟩
   ·rw [List.getD_eq_getElem?_getD,hr];exact hb
   ·rw [Int.toNat_natCast,plF_at (ab_nodup hl) hj (Nat.le_refl _)]
theorem ab_rc {i j:Nat} (hi:i<l.length):Rc (abM m l).up i j ↔ ∃ hj:j<l.length,Rc m.up l[i] l[j]:=by
 have hrow:=(Wd.shaped_and hG.shape).2.2.2.1
 constructor
 ·intro h
  induction h with
  | refl=>exact ⟨hi,.refl _⟩
  | step e _ ih =>
   obtain ⟨h1,h2,h3⟩:=(ab_ed hO hG hl).1 e
   obtain ⟨h4,h5⟩:=ih h2
   exact ⟨h4,.step h3 h5⟩
 ·rintro ⟨hj,h⟩
  have key:∀ x y,Rc m.up x y→∀ i (hi:i<l.length),l[i]=x→∀ j (hj:j<l.length),l[j]=y→Rc (abM m l).up i j:=by
   intro x y h
   induction h with
   | refl x =>
    intro i hi e1 j hj e2
    have:=nd_inj (ab_nodup hl) (e1.trans e2.symm)
    subst this
    exact .refl _
   | step e h ih =>
    rename_i x y z
    intro i hi e1 j hj e2
    subst e1
    have hvi:=(ab_mem hl).1 (List.getElem_mem hi)
    have hy:y<m.up.length:=Wd.rc_lt hrow (.one e) hvi.1
    have hym:y ∈ l:=(ab_mem hl).2 ⟨hy,(hO _ _).2 (((hO _ _).1 hvi.2).trans (.one e))⟩
    obtain ⟨k,hk,rfl⟩:=List.mem_iff_getElem.1 hym
    exact .step ((ab_ed hO hG hl).2 ⟨hi,hk,e⟩) (ih k hk rfl j hj e2)
  exact key _ _ h i hi rfl j hj rfl
include ha
omit hG in
theorem ab_pos:1≤l.length:=by
 have:a ∈ l:=(ab_mem hl).2 ⟨ha,(hO _ _).2 (.refl _)⟩
 exact List.length_pos_of_mem this
theorem ab_good:Wd.Good (abM m l):=by
 obtain ⟨h1,h2,h3,h4,h5⟩:=Wd.shaped_and hG.shape
 have hlen:(abM m l).up.length=l.length:=by simp [abM,abU]
 have hll:l.length≤m.up.length:=by rw [hl];exact numsTo_len _ _
 have hvl:∀ i (hi:i<l.length),vl (abM m l) i=vl m l[i]:=fun i hi=>by
  show (l.map (vl m)).getD i []=_
  rw [List.getD_eq_getElem?_getD,List.getElem?_map,List.getElem?_eq_getElem hi];rfl
 refine ⟨?_,fun i j hi r1 r2 => ?_,fun i j hi r => ?_⟩
 ·unfold Wd.shaped
  simp only [Bool.and_eq_true,decide_eq_true_eq,List.all_eq_true]
  refine ⟨⟨⟨⟨?_,?_⟩,?_⟩,fun r hr => ?_⟩,fun r hr => ?_⟩
  ·rw [hlen];exact ab_pos hO ha hl
  ·omega
  ·rw [hlen];simp [abM]
  ·obtain ⟨i,hi,rfl⟩:=List.mem_iff_getElem.1 hr
   unfold allW
   rw [List.all_eq_true]
   intro u hu
   obtain ⟨k,rfl⟩:∃ k:Nat,u=(k:Int):=by
    have hi':i<l.length:=by omega
    simp only [abM,abU,List.getElem_map] at hu
    obtain ⟨y,_,rfl⟩:=List.mem_map.1 hu
    exact ⟨_,rfl⟩
   obtain ⟨_,hk,_⟩:=(ab_ed hO hG hl).1 (⟨_,List.getElem?_eq_getElem hi,hu⟩:Ed (abM m l).up i k)
   unfold inW
   simp;omega
  ·obtain ⟨v,hv,rfl⟩:=List.mem_map.1 hr
   have:=(ab_mem hl).1 hv
   unfold vl
   rw [List.getD_eq_getElem?_getD,List.getElem?_eq_getElem (by omega)]
   exact h5 _ (List.getElem_mem _)
 ·rw [hlen] at hi
  obtain ⟨hj,k1⟩:=(ab_rc hO hG hl hi).1 r1
  obtain ⟨_,k2⟩:=(ab_rc hO hG hl hj).1 r2
  exact nd_inj (ab_nodup hl) (hG.anti _ _ ((ab_mem hl).1 (List.getElem_mem hi)).1 k1 k2)
 ·rw [hlen] at hi
  obtain ⟨hj,k1⟩:=(ab_rc hO hG hl hi).1 r
  rw [hvl i hi,hvl j hj]
  exact hG.mono _ _ ((ab_mem hl).1 (List.getElem_mem hi)).1 k1
omit ha in
theorem ab_isO {M':Nat→Nat→Bool} (hO':IsO (abM m l).up M'):∀ i j,i<l.length→j<l.length→M' i j=M (l.getD i 0) (l.getD j 0):=fun i j hi hj=>by
 have e:∀ k (hk:k<l.length),l.getD k 0=l[k]:=fun k hk=>by rw [List.getD_eq_getElem?_getD,List.getElem?_eq_getElem hk];rfl
 rw [e i hi,e j hj,Bool.eq_iff_iff,hO' i j,hO]
 exact (ab_rc hO hG hl hi).trans ⟨fun ⟨_,h⟩=>h,fun h=>⟨hj,h⟩⟩
end
theorem tdU_congr {M M':Nat→Nat→Bool} {n:Nat} (h:∀ i j,i<n→j<n→M i j=M' i j):tdU M n n=tdU M' n n:=by
 unfold tdU
 refine List.map_congr_left fun a ha => ?_
 have ha:=List.mem_range.1 ha
 congr 1
 unfold nxF
 have hov:numsTo (ovP M a) n=numsTo (ovP M' a) n:=by
  unfold numsTo
  refine List.filter_congr fun x hx => ?_
  have hx:=List.mem_range.1 hx
  unfold ovP
  rw [Int.toNat_natCast,h a x ha hx]
 rw [hov]
 refine List.filter_congr fun x hx => ?_
 have hxn:=(List.mem_range.1 (List.mem_filter.1 hx).1)
 congr 1
 unfold bwP
 rw [Bool.eq_iff_iff,List.any_eq_true,List.any_eq_true]
 have hb:∀ y,y ∈ numsTo (ovP M' a) n→btP M (x:Int).toNat (y:Int)=btP M' (x:Int).toNat (y:Int):=fun y hy=>by
  have hyn:=List.mem_range.1 (List.mem_filter.1 hy).1
  unfold btP
  rw [Int.toNat_natCast,Int.toNat_natCast,h y x hyn hxn]
 exact ⟨fun ⟨y,h1,h2⟩=>⟨y,h1,by rw [← hb y h1];exact h2⟩,fun ⟨y,h1,h2⟩=>⟨y,h1,by rw [hb y h1];exact h2⟩⟩
end Go.Proofs.Ytoedidbbjnnpnaa.Wm

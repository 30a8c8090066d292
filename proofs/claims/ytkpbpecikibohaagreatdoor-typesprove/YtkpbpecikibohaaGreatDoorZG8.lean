import Derived.Test.YtkpbpecikibohaaGreatDoorZFind
import Derived.Test.YtkpbpecikibohaaGreatDoorZG7
import Derived.Test.YtkpbpecikibohaaGreatDoorZTurn
set_option linter.unusedSimpArgs false
set_option maxRecDepth 100000
set_option maxHeartbeats 4000000
namespace Go.Proofs.YtkpbpecikibohaaGreatDoor
open Go.RowKit Go.Shelf Go.Maps
open Fm (Nd)
attribute [local go_sem] Oper.semAt_some
section
variable {P:Program} {ops:Array Oper} {rest:List Oper} {o:Oper} {Q:Exit->Act->World->Prop} {n:Nat} {a:Act} {w:World}
theorem Sl (hnd:∀ c,o.op≠.defer c) {K K':Act->World->Prop} (hK:∀ a w,K a w->K' a w) (h:o.wp P a w K Q):o.wpIn Fence.wide n P a w K' Q:=by
 refine⟨fun _ _=>trivial,?_⟩
 rw[Oper.semAt_eq _ _ _ hnd]
 unfold Oper.wp at h
 generalize (execOp a.eval o).run P w=r at *
 have hd:Fence.wide.depth.isSome=true->1<=n:=fun h=>by simp[Fence.wide] at h
 cases r with
 | ok x w'=>
  cases x <;> simp only[Oper.upon,Oper.uponIn] at h |-
  case value v=>exact hK _ _ h
  case skip=>exact hK _ _ h
  case defer d=>exact hK _ _ h
  case enter f args=>
   refine⟨hd,callsIn_wide.2 (Calls.mono h fun e w'' he => ?_)⟩
   cases e with
   | returned v=>exact hK _ _ he
   | panicked c=>exact he
   | outgrown=>exact he
  case row row args=>exact⟨hd,fun c cs _=>let ⟨v,w',r,s⟩:=h c cs;⟨v,w',hK _ _ r,stepsIn_wide.2 s⟩⟩
 | halt x w'=>
  cases x <;> simp only[Oper.upon,Oper.uponIn] at h |-
  case panic u=>exact h
theorem JF (hg:o.guard=none) (hnd:∀ c,o.op≠.defer c) (h:∀ K':Act->World->Prop,(∀ a w,wpListIn Fence.wide n P ops Q rest a w->K' a w)->o.wp P a w K' Q):wpListIn Fence.wide n P ops Q (o :: rest) a w :=
 wpListIn_plain hg fun K' hK'=>Sl hnd (fun _ _ h=>h) (h K' hK')
end
section
variable {ops:Array Oper} {rest:List Oper} {o:Oper} {Q:Exit->Act->World->Prop} {n:Nat} {a:Act} {w:World}
theorem Po (T:TypeId) (x:Operand) (hop:o.op=Op.load T x) (p:Value) (hx:a.eval x=p) (v:Value) (hrun:(Instr.loadAt T p).run Tryz.prog w=.ok v w) (hg:o.guard=none) (hK:wpListIn Fence.wide n Tryz.prog ops Q rest (a.put o.dst v) w):wpListIn Fence.wide n Tryz.prog ops Q (o :: rest) a w:=by
 refine JF hg (fun c hc=>by rw[hop] at hc;cases hc) fun K' hK' => ?_
 unfold Oper.wp
 simp[execOp,hop,hx,hrun,Result.andThen]
 exact hK' _ _ hK
theorem G8 (T:TypeId) (hop:o.op=Op.alloc T) (cs:Array Value) (hz:∀ w,(zeroValue T).run Tryz.prog w=.ok (.agg cs) w) (hg:o.guard=none)
 (hK:∀ w' b,New w w' b cs T->wpListIn Fence.wide n Tryz.prog ops Q rest (a.put o.dst (.pointer (some ⟨b,0,none⟩))) w'):wpListIn Fence.wide n Tryz.prog ops Q (o :: rest) a w:=by
 refine JF hg (fun c hc=>by rw[hop] at hc;cases hc) fun K' hK' => ?_
 unfold Oper.wp
 simp[execOp,hop,Instr.alloc,hz,go_sem,Result.andThen]
 exact hK' _ _ (hK _ _ (bE w _ T))
theorem VJ (T:TypeId) (hg:o.guard=none) (hd:o.dst=none) (x y:Operand) (hop:o.op=Op.store T x y) (b:Nat) (hx:a.eval x=.pointer (some ⟨b,0,none⟩)) (cs:Array Value) (hy:a.eval y=.agg cs) (old:Array Value) (T0:TypeId) (h:Cl w b old T0)
 (hs:(Tryz.prog.info? T).map (·.size)=some cs.size) (hs':old.size=cs.size) (h1:cs.all (·.oneCell')=true) (hK:∀ w',Cl w' b cs T0->dn b w w'->wpListIn Fence.wide n Tryz.prog ops Q rest a w'):wpListIn Fence.wide n Tryz.prog ops Q (o :: rest) a w:=by
 refine JF hg (fun c hc=>by rw[hop] at hc;cases hc) fun K' hK' => ?_
 have hrun:=Vl (T:=T) h hs hs' h1
 unfold Oper.wp
 simp[execOp,hop,hx,hy,hrun,Result.andThen]
 rw[Oper.upon_skip,hd]
 exact hK' _ _ (hK _ (setRow_heap w b _ _ _ _ h) (fJ w b cs))
theorem Sm (hg:o.guard=none) (f:FuncId) (x:Operand) (xs:List Operand) (ts:Array TypeId) (hop:o.op=Op.call { callee:=Callee.value x,args:=xs.toArray,argTypes:=ts }) (vs cs:List Value) (hx:a.eval x=.func (.func f) #[] cs.toArray) (hv:xs.map a.eval=vs)
 (hcf:∀ vs w,(callFunc f vs).run Tryz.prog w=.ok (.enter f vs) w) (h:Calls Tryz.prog f (vs ++ cs).toArray w fun e w'=>∃ v,e=.returned v/\wpListIn Fence.wide n Tryz.prog ops Q rest (a.put o.dst v) w'):wpListIn Fence.wide n Tryz.prog ops Q (o :: rest) a w:=by
 subst hv
 refine JF hg (fun c hc=>by rw[hop] at hc;cases hc) fun K' hK' => ?_
 have hrun:(execOp a.eval o).run Tryz.prog w=.ok (.enter f (xs.map a.eval ++ cs).toArray) w:=by
  simp[execOp,hop,resolve,invoke,Deferred.ofValue,hx,hcf]
 unfold Oper.wp
 rw[hrun,Oper.upon_enter]
 refine h.mono ?_
 rintro e w' ⟨v,rfl,hK⟩
 exact hK' _ _ hK
end
open Bt.Bs (Ok wd)
section
variable (r:List Nat) (g:Int)
def sV (m:Sh) (i:Nat):List (Int × Int):=if mY r g i m then [((i:Int)+1,m.id)] else []
def nL (m:Sh) (I:List Nat):List (Int × Int):=I.flatMap (sV r g m)
def lF (I:List Nat) (ms:List Sh):List (Int × Int):=ms.flatMap fun m=>nL r g m I
def tl1 (ms:List Sh) (ts:List (List Int)):List (Int × Int):=ts.flatMap fun u=>lF r g (bG u) ms
theorem Pp (m:Sh) (I:List Nat) (p:Nat) (h:p<I.length):nL r g m (I.drop p)=sV r g m I[p] ++ nL r g m (I.drop (p+1)):=by
 unfold nL;rw[List.drop_eq_getElem_cons h,List.flatMap_cons]
theorem Pq (I:List Nat) (ms:List Sh) (j:Nat) (h:j<ms.length):lF r g I (ms.drop j)=nL r g ms[j] I ++ lF r g I (ms.drop (j+1)):=by
 unfold lF;rw[List.drop_eq_getElem_cons h,List.flatMap_cons]
theorem Pt (ms:List Sh) (ts:List (List Int)) (i:Nat) (h:i<ts.length):tl1 r g ms (ts.drop i)=lF r g (bG (ts.getD i [])) ms ++ tl1 r g ms (ts.drop (i+1)):=by
 have e:ts.getD i []=ts[i]:=by simp[List.getD,h]
 rw[e]
 unfold tl1;rw[List.drop_eq_getElem_cons h,List.flatMap_cons]
end
def ShR (w:World) (q:Nat) (ms:List Sh):Prop:=∃ cur,w.heap[q]?=some (.cells cur 182 (0,0))/\ms.length * 7<=cur.size/\cur.toList.take (ms.length * 7)=cellsS ms
theorem Bw:∀ (t:List Sh) (k j:Nat) (hk:k<t.length),j<7->(cellsS t)[k * 7+j]?=(bB t[k]).toList[j]?
 | [],k,j,hk,_=>absurd hk (by simp)
 | n :: t,0,j,hk,hj=>by
  show((bB n).toList ++ cellsS t)[0 * 7+j]?=_
  rw[List.getElem?_append_left (by show 0 * 7+j<7;omega),Nat.zero_mul,Nat.zero_add]
  rfl
 | n :: t,k+1,j,hk,hj=>by
  have hl:(bB n).toList.length=7:=rfl
  show((bB n).toList ++ cellsS t)[(k+1) * 7+j]?=_
  rw[List.getElem?_append_right (by rw[hl];omega),hl,show(k+1) * 7+j - 7=k * 7+j by omega]
  rw[Bw t k j (by simpa using hk) hj]
  rfl
section
variable {w w':World} {q:Nat} {ms:List Sh}
theorem ShR.same (h:ShR w q ms) (hs:Same w w'):ShR w' q ms:=by
 obtain⟨cur,h1,h2⟩:=h
 exact⟨cur,(hs.2 q cur _ _ h1 (by decide) (by decide)).trans h1,h2⟩
theorem ShR.load (h:ShR w q ms) {j:Nat} (hj:j<ms.length):(Instr.loadAt 182 (.pointer (some ⟨q,j * 7,none⟩))).run Tryz.prog w=.ok (.agg (bB ms[j])) w:=by
 obtain⟨cur,h1,h2,h3⟩:=h
 refine run_loadAt_mid (P:=Tryz.prog) w q (j * 7) 182 (bB ms[j]).toList _ (fun i v hv => ?_) Tryz.underlying182 rfl (by rw[jW];rfl)
 have hi:i<7:=(List.getElem?_eq_some_iff.1 hv).1
 rw[cell_of_row w q _ _ _ _ h1]
 have e:=Bw ms j i hj hi
 rw[<- h3,List.getElem?_take,if_pos (by omega)] at e
 rw[<- hv,<- e]
 simp
theorem JG {base:Nat} {v:Value} (h:Ph base w v ms) (h0:ms≠[]):∃ q cap,v=.slice (some ⟨q,0,none⟩) ms.length cap/\ShR w q ms/\base<=q:=by
 rcases h.2 with ⟨rfl,e0⟩ | ⟨g,cap,cur,rfl,hg,hh,h1,h2,h3,h4⟩
 ·exact absurd (List.eq_nil_of_length_eq_zero e0) h0
 ·exact⟨g,cap,rfl,⟨cur,hh,by omega,h4⟩,hg⟩
theorem Rt.same {L:List T3} (h:Rt w q L) (hs:Same w w'):Rt w' q L:=by
 obtain⟨cur,h1,h2⟩:=h
 exact⟨cur,(hs.2 q cur _ _ h1 (by decide) (by decide)).trans h1,h2⟩
end
theorem je.x {w:World} {x:T3} {p:Sh->Bool} (h:je w x.fv p):(∀ vs w,(callFunc x.gf vs).run Tryz.prog w=.ok (.enter x.gf vs) w)/\∀ W m,Same w W->Calls Tryz.prog x.gf ([fB m] ++ x.cs).toArray W fun e w'=>e=.returned (.bool (p m))/\Below W.heap.size W w':=by
 obtain⟨gf,cs,h1,h2,h3⟩:=h
 unfold T3.fv at h1
 injection h1 with e1 _ e2
 injection e1 with e1
 have e3:x.cs=cs:=by
  have:=congrArg Array.toList e2
  simpa using this
 rw[e1,e3]
 exact⟨h2,h3⟩
structure FM (W:World) (B bt bw bm q qm cm k b T wb:Nat) (r:List Nat) (g:Int) (L:List T3) (ts:List (List Int)) (ms:List Sh):Prop where
 tb:Cl W bt #[.slice (some ⟨q,0,none⟩) ts.length ts.length] 139
 tr:uh W B q (.slice (some ⟨q,0,none⟩) ts.length ts.length) ts
 bx:Cl W bw #[.pointer (some ⟨k,0,none⟩)] 136
 mb:Cl W bm #[.slice (some ⟨qm,0,none⟩) ms.length cm] 176
 ml:ShR W qm ms
 md:Made W k b T wb r g L
def KQ (B N:Nat) (W W':World):Prop:=Same W W'/\∀ k,B<=k->k<N->W'.heap[k]?=W.heap[k]?
theorem ZJ {B N:Nat} {A A' C:World} (h:KQ B N A A') (k:KQ B N A' C):KQ B N A C:=⟨h.1.trans k.1,fun i h1 h2=>(k.2 i h1 h2).trans (h.2 i h1 h2)⟩
theorem ZK {B N:Nat} {w:World} (hq:N<=w.heap.size) (W:World) (l:Nat) (o o':Obj) (hl:w.heap.size<=l) (ho:W.heap[l]?=some o) (hc:o.isCells=false) (_:o.isWalk=false):KQ B N W (W.putObj l o'):=by
 refine⟨⟨by simp,fun k cs T fr hk _ _=>World.putObj_heap_other (fun e => ?_)⟩,fun k _ h2=>World.putObj_heap_other (by omega)⟩
 subst e
 rw[hk] at ho
 cases ho
 cases hc
theorem KQ.of_below {B N:Nat} {W W':World} (hb:Below W.heap.size W W') (hq:N<=W.heap.size):KQ B N W W':=⟨Same.of_below hb,fun k _ h=>hb.block k (by omega)⟩
structure FN (W:World) (B N q:Nat) (ts:List (List Int)):Prop where
 sz:N<=W.heap.size
 ql:q<N
 row:∀ i,i<ts.length->∃ rv,W.cell? ⟨q,i,none⟩=some rv/\∃ p,rv=.slice (some ⟨p,0,none⟩) (ts.getD i []).length (ts.getD i []).length/\p<N
theorem FN.keep {W W':World} {B N q:Nat} {ts:List (List Int)} (h:FN W B N q ts) (hq:B<=q) (hk:KQ B N W W'):FN W' B N q ts:=by
 refine⟨Nat.le_trans h.sz hk.1.1,h.ql,fun i hi => ?_⟩
 obtain⟨rv,h1,h2⟩:=h.row i hi
 exact⟨rv,(World.cell?_of_block (a:=⟨q,i,none⟩) (hk.2 q hq h.ql)).trans h1,h2⟩
theorem uh.fn {W:World} {B q:Nat} {v:Value} {ts:List (List Int)} (h:uh W B q v ts):FN W B W.heap.size q ts:=by
 refine⟨Nat.le_refl _,h.lt,fun i hi => ?_⟩
 obtain⟨rv,h1,p,h2,h3,_,_⟩:=h.row i hi
 exact⟨rv,h1,p,h2,h3.lt⟩
theorem uh.keep {W W':World} {B N q:Nat} {v:Value} {ts:List (List Int)} (h:uh W B q v ts) (hn:FN W B N q ts) (hk:KQ B N W W'):uh W' B q v ts:=by
 refine⟨h.val,Nat.lt_of_lt_of_le h.lt hk.1.1,h.ge,fun i hi => ?_⟩
 obtain⟨rv,hc,p,hv,hcl,hl,hp⟩:=h.row i hi
 obtain⟨rv2,hc2,p2,hv2,hp2⟩:=hn.row i hi
 have e:rv=rv2:=Option.some.inj (hc.symm.trans hc2)
 have e2:p=p2:=by
  rw[hv,hv2] at e
  injection e with e _ _
  injection e with e
  injection e
 subst e2
 exact⟨rv,(World.cell?_of_block (a:=⟨q,i,none⟩) (hk.2 q h.ge hn.ql)).trans hc,p,hv,(hk.2 p hp hp2).trans hcl,hl,hp⟩
section
variable {W W':World} {B N bt bw bm q qm cm k b T wb:Nat} {r:List Nat} {g:Int} {L:List T3} {ts:List (List Int)} {ms:List Sh}
theorem FM.keep (h:FM W B bt bw bm q qm cm k b T wb r g L ts ms) (hn:FN W B N q ts) (hk:KQ B N W W'):FM W' B bt bw bm q qm cm k b T wb r g L ts ms :=
 ⟨h.tb.same (by decide) (by decide) hk.1,h.tr.keep hn hk,h.bx.same (by decide) (by decide) hk.1,h.mb.same (by decide) (by decide) hk.1,h.ml.same hk.1,h.md.same hk.1⟩
theorem FM.later (h:FM W B bt bw bm q qm cm k b T wb r g L ts ms) (hb:Below W.heap.size W W'):FM W' B bt bw bm q qm cm k b T wb r g L ts ms:=h.keep h.tr.fn (KQ.of_below hb (Nat.le_refl _))
def FQ (W:World) (B N bt bw bm q qm cm k b T wb:Nat) (r:List Nat) (g:Int) (L:List T3) (ts:List (List Int)) (ms:List Sh):Prop:=FM W B bt bw bm q qm cm k b T wb r g L ts ms/\FN W B N q ts
theorem FQ.keep (h:FQ W B N bt bw bm q qm cm k b T wb r g L ts ms) (hk:KQ B N W W'):FQ W' B N bt bw bm q qm cm k b T wb r g L ts ms:=⟨h.1.keep h.2 hk,h.2.keep h.1.tr.ge hk⟩
theorem FQ.later (h:FQ W B N bt bw bm q qm cm k b T wb r g L ts ms) (hb:Below W.heap.size W W'):FQ W' B N bt bw bm q qm cm k b T wb r g L ts ms:=h.keep (KQ.of_below hb h.2.sz)
end
theorem VK (w:World):(zeroValue 176).run Tryz.prog w=.ok (.slice none 0 0) w:=by kernel_rfl
theorem Sn (u:List Int):(bG u).length<=13:=by
 have:=List.length_filter_le (fun i:Nat=>u.contains ((i:Int)+1)) (List.range 13)
 rwa [List.length_range] at this
theorem Sq (u:List Int) (p:Nat) (h:p<(bG u).length):(bG u)[p]<13:=by
 have:=List.getElem_mem h
 unfold bG at this
 exact List.mem_range.1 (List.mem_filter.1 this).1
theorem xL (w0:World) {b mm:Nat} {v:Value} {t:List Nd} (hT:Tb w0 b mm v t) (hZ:Bt.Tz w0) {k T wb:Nat} {r:List Nat} {g:Int} {L:List T3} (hM:Made w0 k b T wb r g L) (hr:Ok r) (hs0:cZ t r g≠[]) {B q:Nat} {tv:Value} {ts:List (List Int)} (ht:uh w0 B q tv ts) :
 Calls Tryz.prog 67 #[.pointer (some ⟨k,0,none⟩),tv] w0 fun e w'=>∃ bt bw bm qm cm,e=.returned (.func (.func 95) #[] #[.pointer (some ⟨bt,0,none⟩),.pointer (some ⟨bw,0,none⟩),.pointer (some ⟨bm,0,none⟩)])/\FM w' B bt bw bm q qm cm k b T wb r g L ts (cZ t r g)/\Below w0.heap.size w0 w':=by
 have hl:=hr.1
 have KS:=show Hid (∀ W:World,Below w0.heap.size w0 W->Calls Tryz.prog 94 #[.pointer (some ⟨k,0,none⟩)] W fun e w'=>∃ v',e=.returned v'/\Ph W.heap.size w' v' (cZ t r g)/\Below W.heap.size W w') from fun W h=>MP W (hT.later h) (Bt.iY hZ h) (hM.wk.later h) hr
 have HM:=show Hid (∀ W:World,Below w0.heap.size w0 W->Made W k b T wb r g L) from fun W h=>hM.later h
 have HT:=show Hid (∀ W:World,Below w0.heap.size w0 W->uh W B q tv ts) from fun W h=>ht.later h
 have HV:=show Hid _ from ht.val
 have htc:∃ p n c,tv=.slice p n c:=⟨_,_,_,ht.val⟩
 clear hT hZ hM ht
 go_enter Tryz.func67,Tryz.ntmps67
 go_wp2_with (refine fD 136 _ rfl _ rfl rfl rfl ?_)
 intro w1 bw hn1
 go_wp2_with (refine fD 139 _ rfl _ rfl (by obtain⟨p,n,c,rfl⟩:=htc;rfl) rfl ?_)
 intro w2 bt hn2
 have H2:=show Hid (Below w0.heap.size w0 w2/\Cl w2 bw #[.pointer (some ⟨k,0,none⟩)] 136/\Cl w2 bt #[tv] 139) from⟨cO hn1.av hn2,Cl.new hn1.blk hn2,hn2.blk⟩
 have c2:w2.cell? ⟨bw,0,none⟩=some (.pointer (some ⟨k,0,none⟩)):=H2.out.2.1.cell 0
 clear hn1 hn2
 go_wp2_with fail
 refine Calls.mono (KS.out w2 H2.out.1) ?_
 rintro e w3 ⟨v',rfl,ho,hb3⟩
 obtain⟨qm,cm,rfl,hsr,hqm⟩:=JG ho hs0
 have H3:=show Hid (Below w0.heap.size w0 w3/\Cl w3 bw #[.pointer (some ⟨k,0,none⟩)] 136/\Cl w3 bt #[tv] 139/\ShR w3 qm (cZ t r g)) from⟨H2.out.1.trans (hb3.mono H2.out.1.size),H2.out.2.1.later hb3,H2.out.2.2.later hb3,hsr⟩
 clear ho hb3 hsr hqm KS H2 c2
 go_wp2_with (refine fO 176 rfl (.slice none 0 0) VK rfl rfl ?_)
 intro w4 bm fV
 have HS:=show Hid (Cl (w4.setCell ⟨bm,0,none⟩ (.slice (some ⟨qm,0,none⟩) (cZ t r g).length cm)) bm #[.slice (some ⟨qm,0,none⟩) (cZ t r g).length cm] 176) from heap_setCell_same w4 bm 0 _ _ _ fV.blk
 have HK:=show Hid (dn bm w4 (w4.setCell ⟨bm,0,none⟩ (.slice (some ⟨qm,0,none⟩) (cZ t r g).length cm))) from dn.set (Kp.refl _ w4) 0 _
 have c4:w4.cell? ⟨bm,0,none⟩=some (.slice none 0 0):=Cl.cell fV.blk 0
 have f4:=Cl.fr fV.blk 0
 have dQ:=show Hid _ from fV
 clear fV
 go_wp2_with fail
 go_ret
 generalize (w4.setCell ⟨bm,0,none⟩ (.slice (some ⟨qm,0,none⟩) (cZ t r g).length cm))=w5 at *
 have hb5:Below w3.heap.size w3 w5:=bR dQ.out.av HK.out dQ.out.ge
 have Pv:=H3.out.1.trans (hb5.mono H3.out.1.size)
 refine⟨bt,bw,bm,qm,cm,rfl,⟨?_,?_,H3.out.2.1.later hb5,HS.out,H3.out.2.2.2.same (Same.of_below hb5),HM.out w5 Pv⟩,Pv⟩
 ·rw[<- HV.out]
  exact H3.out.2.2.1.later hb5
 ·have:=HT.out w5 Pv
  rw[HV.out] at this
  exact this
attribute [local go_sem] Oper.semAt_some
theorem MQ {b:Bool} {p:Prop} (h:some undef=some (Value.bool b)):p:=by cases h
abbrev JH (x:Int × Int):Array Value:=#[Value.int .i64 x.1,Value.int .i64 x.2]
theorem Pw (n:Nat) (hn:1<=n) (l:Nat) {B N bt bw bm q qm cm k b T wb:Nat} {r:List Nat} (hr:Ok r) {g:Int} {L:List T3} {ts:List (List Int)} {ms:List Sh} (hts:ts.length<=1000) (hms:ms.length<=2000) (J Jx:List (Int × Int)->World->Prop)
 (hJ:∀ pre W W',J pre W->Below W.heap.size W W'->J pre W')
 (hY:∀ pre x W,J pre W->pre.length<(tl1 r g ms ts).length->YieldAt Fence.wide (n - 1) Tryz.prog l (JH x) W fun e W'=>
  (e=.returned (.bool true)/\J (pre ++ [x]) W'/\KQ B N W W')\/(e=.returned (.bool false)/\Jx (pre ++ [x]) W'))
 (W:World) (hM:FQ W B N bt bw bm q qm cm k b T wb r g L ts ms) (h0:J [] W) :
 CallsIn Fence.wide n Tryz.prog 95 #[.func (.yield l) #[] #[],.pointer (some ⟨bt,0,none⟩),.pointer (some ⟨bw,0,none⟩),.pointer (some ⟨bm,0,none⟩)] W fun e W'=>(∃ v,e=.returned v) /\
  ((∃ ys,ys=tl1 r g ms ts/\J ys W')\/(∃ pre,pre <+: tl1 r g ms ts/\Jx pre W')):=by
 have HJ:=show Hid (∀ (pre:List (Int × Int)) (W W':World),J pre W->Below W.heap.size W W'->J pre W') from hJ
 have GL:=show Hid (∀ (pre:List (Int × Int)) (x:Int × Int) (W:World),J pre W->pre.length<(tl1 r g ms ts).length->YieldAt Fence.wide (n - 1) Tryz.prog l (JH x) W fun e W'=>(e=.returned (.bool true)/\J (pre ++ [x]) W'/\KQ B N W W')\/(e=.returned (.bool false)/\Jx (pre ++ [x]) W')) from hY
 have H0:=show Hid (J [] W/\FQ W B N bt bw bm q qm cm k b T wb r g L ts ms) from⟨h0,hM⟩
 have HD1:=show Hid (∀ i,i<ts.length->tl1 r g ms (ts.drop i)=lF r g (bG (ts.getD i [])) ms ++ tl1 r g ms (ts.drop (i+1))) from fun i hi=>Pt r g ms ts i hi
 have AY:=show Hid (tl1 r g ms (ts.drop ts.length)=[]) from by show tl1 r g ms (ts.drop ts.length)=[];rw[List.drop_length];rfl
 have VL:=show Hid (tl1 r g ms (ts.drop 0)=tl1 r g ms ts) from rfl
 have c0:W.cell? ⟨bt,0,none⟩=some (.slice (some ⟨q,0,none⟩) ts.length ts.length):=hM.1.tb.cell 0
 clear hJ hY h0 hM
 obtain⟨full,hfull⟩:∃ full,full=tl1 r g ms ts:=⟨_,rfl⟩
 rw[<- hfull] at GL VL |-
 clear hfull
 refine callsIn_of_wp Tryz.func95 rfl trivial ?_ rfl
 simp only[Tryz.ntmps95,List.size_toArray,List.length_cons,List.length_nil,Nat.reduceAdd,Nat.reduceSub,Array.replicate_succ,Array.replicate_zero,List.push_toArray,List.append_toArray,List.nil_append,List.cons_append]
 gi_wp2
 gi_loopw [14] (fun iv wr=>∃ (i:Nat) (pre:List (Int × Int)),i<=ts.length/\iv=.int .i64 (i:Int)/\Hid (full=pre ++ tl1 r g ms (ts.drop i)/\J pre wr/\FQ wr B N bt bw bm q qm cm k b T wb r g L ts ms)) (fun iv _=>ts.length - (intOf iv).toNat)
 case atStart=>exact⟨0,[],by omega,rfl,VL.out.symm,H0.out⟩
 case round=>
  obtain⟨i,pre,hi,rfl,HQ⟩:=hrel
  clear H0 VL c0
  by_cases hlt:i<ts.length
  ·have Dz:(i:Int)<(ts.length:Int):=by omega
   obtain⟨rv,hc1,MR⟩:=HQ.out.2.2.1.tr.row i hlt
   have HD:=show Hid _ from HD1.out i hlt
   have c1:wr.cell? ⟨bw,0,none⟩=some (.pointer (some ⟨k,0,none⟩)):=HQ.out.2.2.1.bx.cell 0
   have KO:=show Hid _ from Mk wr HQ.out.2.2.1.md hr rv (ts.getD i []) MR.gP
   clear AY MR
   generalize ts.getD i []=u at *
   gi_wp2_with (refine⟨trivial,?_⟩;gi_at_call 96;refine(callsIn_wide.2 KO.out).mono ?_;rintro e w2 ⟨q2,c2,rfl,VN,hq2,hb2⟩;have c3:w2.cell? ⟨bm,0,none⟩=some (.slice (some ⟨qm,0,none⟩) ms.length cm):=(HQ.out.2.2.later hb2).1.mb.cell 0)
   have H2:=show Hid (full=pre ++ lF r g (bG u) (ms.drop 0) ++ tl1 r g ms (ts.drop (i+1))/\J pre w2/\FQ w2 B N bt bw bm q qm cm k b T wb r g L ts ms/\Rt w2 q2 ((bG u).map fun i=>L.getD i t30)) from
    ⟨by rw[HQ.out.1,HD.out];simp,HJ.out _ _ _ HQ.out.2.1 hb2,HQ.out.2.2.later hb2,VN⟩
   clear HQ hb2 VN hq2 KO hc1 c1 c3 HD
   gi_loopw [23] (fun jv wr=>∃ (j:Nat) (pre:List (Int × Int)),j<=ms.length/\jv=.int .i64 (j:Int)/\Hid (full=pre ++ lF r g (bG u) (ms.drop j) ++ tl1 r g ms (ts.drop (i+1))/\J pre wr/\FQ wr B N bt bw bm q qm cm k b T wb r g L ts ms/\Rt wr q2 ((bG u).map fun i=>L.getD i t30))) (fun jv _=>ms.length - (intOf jv).toNat)
   case atStart=>exact⟨0,pre,by omega,rfl,H2.out⟩
   case round=>
    obtain⟨j,pre,hj,rfl,HQ⟩:=hrel
    clear H2
    by_cases VO:j<ms.length
    ·have adk:(j:Int)<(ms.length:Int):=by omega
     have xI:=show Hid _ from HQ.out.2.2.1.1.ml.load VO
     have HD:=show Hid _ from Pq r g (bG u) ms j VO
     generalize ms[j]=m at *
     gi_wp2_with (first|(refine Po 182 _ rfl _ rfl _ xI.out rfl ?_)|(refine G8 182 rfl _ uN rfl ?_))
     intro w3 b9 aL
     gi_wp2_with (refine VJ 182 rfl rfl _ _ rfl b9 rfl (bB m) rfl _ _ aL.blk jW rfl (kX m) ?_)
     intro w4 hc4 hk4
     have hb4:=bR aL.av hk4 aL.ge
     have H4:=show Hid (full=pre ++ nL r g m ((bG u).drop 0) ++ (lF r g (bG u) (ms.drop (j+1)) ++ tl1 r g ms (ts.drop (i+1)))/\J pre w4/\FQ w4 B N bt bw bm q qm cm k b T wb r g L ts ms/\Rt w4 q2 ((bG u).map fun i=>L.getD i t30)/\Cl w4 b9 (bB m) 182) from
      ⟨by rw[HQ.out.1,HD.out];simp,HJ.out _ _ _ HQ.out.2.1 hb4,HQ.out.2.2.1.later hb4,HQ.out.2.2.2.later hb4,hc4⟩
     clear HQ HD xI aL hc4 hk4 hb4
     gi_wp2
     gi_loopw [29] (fun pv wr=>∃ (p:Nat) (pre:List (Int × Int)),p<=(bG u).length/\pv=.int .i64 (p:Int)/\Hid (full=pre ++ nL r g m ((bG u).drop p) ++ (lF r g (bG u) (ms.drop (j+1)) ++ tl1 r g ms (ts.drop (i+1)))/\J pre wr/\FQ wr B N bt bw bm q qm cm k b T wb r g L ts ms/\Rt wr q2 ((bG u).map fun i=>L.getD i t30)/\Cl wr b9 (bB m) 182)) (fun pv _=>(bG u).length - (intOf pv).toNat)
     case atStart=>exact⟨0,pre,by omega,rfl,H4.out⟩
     case round=>
      obtain⟨p,pre,hp,rfl,HQ⟩:=hrel
      clear H4
      by_cases Px:p<(bG u).length
      ·have adl:(p:Int)<((bG u).length:Int):=by omega
       have hip:=Sq u p Px
       have hpl:=Sn u
       have HD:=show Hid _ from Pp r g m (bG u) p Px
       have hmp:p<((bG u).map fun i=>L.getD i t30).length:=by simpa using Px
       have xI:=show Hid _ from HQ.out.2.2.2.1.load hmp
       have hil:(bG u)[p]<L.length:=by rw[HQ.out.2.2.1.1.md.len];exact hip
       have hxe:((bG u).map fun i=>L.getD i t30)[p]=L[(bG u)[p]]:=by
        rw[List.getElem_map]
        simp[List.getD,hil]
       rw[hxe] at xI
       have VP:=show Hid _ from(HQ.out.2.2.1.1.md.fit _ hil).x
       have Qh:=show Hid (L[(bG u)[p]].n=(((bG u)[p]:Nat):Int)+1) from HQ.out.2.2.1.1.md.num _ hil
       clear hxe hmp
       generalize L[(bG u)[p]]=x at *
       generalize (bG u)[p]=ip at *
       have VQ:=show Hid _ from vg HQ.out.2.2.2.2
       gi_wp2_with (first|(refine Po 186 _ rfl _ rfl _ xI.out rfl ?_)|(refine G8 186 rfl _ tZ rfl ?_))
       intro w5 b11 fZ
       gi_wp2_with (refine VJ 186 rfl rfl _ _ rfl b11 rfl (c3 x).toArray rfl _ _ fZ.blk sizeT rfl (zB x) ?_)
       intro w6 hc6 pO
       have hb6:=bR fZ.av pO fZ.ge
       have H6:=show Hid (J pre w6/\FQ w6 B N bt bw bm q qm cm k b T wb r g L ts ms/\Rt w6 q2 ((bG u).map fun i=>L.getD i t30)/\Cl w6 b9 (bB m) 182/\Cl w6 b11 (c3 x).toArray 186/\Same wr w6) from
        ⟨HJ.out _ _ _ HQ.out.2.1 hb6,HQ.out.2.2.1.later hb6,HQ.out.2.2.2.1.later hb6,HQ.out.2.2.2.2.later hb6,hc6,Same.of_below hb6⟩
       have HF:=show Hid (full=pre ++ (sV r g m ip ++ nL r g m ((bG u).drop (p+1))) ++ (lF r g (bG u) (ms.drop (j+1)) ++ tl1 r g ms (ts.drop (i+1)))) from by
        show full=_
        rw[HQ.out.1,HD.out]
       have KF:=show Hid _ from VP.out.2 w6 m H6.out.2.2.2.2.2
       have d1:w6.cell? ⟨b11,1,none⟩=some x.fv:=Cl.cell hc6 1
       have VR:=show Hid _ from vg H6.out.2.2.2.1
       clear HQ HD xI fZ hc6 pO hb6 VQ
       unfold fB at KF
       gi_wp2_with (first|(refine Po 182 _ rfl _ rfl _ VR.out rfl ?_)|(refine Sm rfl x.gf (.tmp 34) [.tmp 35] _ rfl [.agg (bB m)] x.cs rfl rfl VP.out.1 ?_))
       refine Calls.mono KF.out ?_
       rintro e w7 ⟨rfl,j4⟩
       refine⟨_,rfl,?_⟩
       have H7:=show Hid (J pre w7/\FQ w7 B N bt bw bm q qm cm k b T wb r g L ts ms/\Rt w7 q2 ((bG u).map fun i=>L.getD i t30)/\Cl w7 b9 (bB m) 182/\Cl w7 b11 (c3 x).toArray 186) from
        ⟨HJ.out _ _ _ H6.out.1 j4,H6.out.2.1.later j4,H6.out.2.2.1.later j4,H6.out.2.2.2.1.later j4,H6.out.2.2.2.2.1.later j4⟩
       clear j4 KF H6 d1 VR VP
       cases hfit:mY r g ip m
       ·have H8:=show Hid (full=pre ++ nL r g m ((bG u).drop (p+1)) ++ (lF r g (bG u) (ms.drop (j+1)) ++ tl1 r g ms (ts.drop (i+1)))) from by
         show full=_
         have:=HF.out
         unfold sV at this
         rw[hfit] at this
         simpa using this
        clear HF hfit
        gi_wp2
        refine⟨fun _ h=>(by cases h),?_⟩
        gi_wp2_with fail
        all_goals (first|exact MQ (by assumption) | skip)
        go_roundw
        case rel=>exact⟨p+1,pre,by omega,gB (by omega),H8.out,H7.out.1,H7.out.2.1,H7.out.2.2.1,H7.out.2.2.2.1⟩
        case measure=>(simp only[intOf];omega)
       ·have H8:=show Hid (full=(pre ++ [(x.n,m.id)]) ++ nL r g m ((bG u).drop (p+1)) ++ (lF r g (bG u) (ms.drop (j+1)) ++ tl1 r g ms (ts.drop (i+1)))) from by
         show full=_
         have:=HF.out
         unfold sV at this
         rw[hfit,<- Qh.out] at this
         simpa using this
        have e0:w7.cell? ⟨b11,0,none⟩=some (.int .i64 x.n):=Cl.cell H7.out.2.2.2.2 0
        have e9:w7.cell? ⟨b9,0,none⟩=some (.int .i64 m.id):=Cl.cell H7.out.2.2.2.1 0
        obtain⟨fn,tmps,assign,body,hy,hR⟩:=GL.out pre (x.n,m.id) w7 H7.out.1 (by rw[H8.out];simp)
        simp only[JH] at hy
        clear HF hfit
        gi_wp2
        refine hR.mono ?_
        clear hR
        rintro e w8 (⟨rfl,YL,gI⟩ | ⟨rfl,ZL⟩)
        ·have H9:=show Hid (J (pre ++ [(x.n,m.id)]) w8/\FQ w8 B N bt bw bm q qm cm k b T wb r g L ts ms/\Rt w8 q2 ((bG u).map fun i=>L.getD i t30)/\Cl w8 b9 (bB m) 182) from
          ⟨YL,H7.out.2.1.keep gI,H7.out.2.2.1.same gI.1,H7.out.2.2.2.1.same (by decide) (by decide) gI.1⟩
         clear YL gI H7 e0 e9
         gi_wp2
         go_roundw
         case rel=>exact⟨p+1,pre ++ [(x.n,m.id)],by omega,gB (by omega),H8.out,H9.out⟩
         case measure=>(simp only[intOf];omega)
        ·gi_wp2
         refine bodyPost_ret (results_none rfl _ _ _) rfl ?_
         exact⟨⟨_,rfl⟩,.inr ⟨pre ++ [(x.n,m.id)],⟨nL r g m ((bG u).drop (p+1)) ++ (lF r g (bG u) (ms.drop (j+1)) ++ tl1 r g ms (ts.drop (i+1))),by rw[H8.out];simp⟩,ZL⟩⟩
      ·obtain rfl:p=(bG u).length:=by omega
       have H5:=show Hid (full=pre ++ lF r g (bG u) (ms.drop (j+1)) ++ tl1 r g ms (ts.drop (i+1))/\J pre wr/\FQ wr B N bt bw bm q qm cm k b T wb r g L ts ms/\Rt wr q2 ((bG u).map fun i=>L.getD i t30)) from
        ⟨by have:=HQ.out.1;rw[List.drop_length] at this;simpa[nL] using this,HQ.out.2.1,HQ.out.2.2.1,HQ.out.2.2.2.1⟩
       clear HQ
       gi_wp2
       go_roundw
       case rel=>exact⟨j+1,pre,by omega,gB (by omega),H5.out⟩
       case measure=>(simp only[intOf];omega)
    ·obtain rfl:j=ms.length:=by omega
     have H5:=show Hid (full=pre ++ tl1 r g ms (ts.drop (i+1))/\J pre wr/\FQ wr B N bt bw bm q qm cm k b T wb r g L ts ms) from
      ⟨by have:=HQ.out.1;rw[List.drop_length] at this;simpa[lF] using this,HQ.out.2.1,HQ.out.2.2.1⟩
     clear HQ
     gi_wp2
     go_roundw
     case rel=>exact⟨i+1,pre,by omega,gB (by omega),H5.out⟩
     case measure=>(simp only[intOf];omega)
  ·obtain rfl:i=ts.length:=by omega
   have HK:=show Hid (full=pre) from by
    have:=HQ.out.1
    rw[AY.out,List.append_nil] at this
    exact this
   clear GL
   gi_wp2
   go_end0
   exact⟨⟨_,rfl⟩,.inl ⟨pre,HK.out.symm,HQ.out.2.1⟩⟩
theorem Bz (n:Nat) (hn:1<=n) {B N bt bw bm q qm cm k b T wb:Nat} {r:List Nat} (hr:Ok r) {g:Int} {L:List T3} {ts:List (List Int)} {ms:List Sh} (hts:ts.length<=1000) (hms:ms.length<=2000) (w:World) (hM:FQ w B N bt bw bm q qm cm k b T wb r g L ts ms) :
 SeqStopsK Fence.wide n Tryz.prog 95 #[.pointer (some ⟨bt,0,none⟩),.pointer (some ⟨bw,0,none⟩),.pointer (some ⟨bm,0,none⟩)] JH (KQ B N) (fun ys=>ys=tl1 r g ms ts) (fun pre=>pre <+: tl1 r g ms ts) (tl1 r g ms ts).length w:=fun l J Jx W hW hJ _ hY h0=>
 Pw n hn l hr hts hms J Jx (fun pre W W' h hb=>hJ pre W W' none h ⟨hb.os,hb.tape,hb.output,hb.size,fun k hk _=>hb.block k hk⟩ (fun r e=>by cases e)) hY W (hM.later hW) h0
end Go.Proofs.YtkpbpecikibohaaGreatDoor

import Derived.Test.YtkpbpecikibohaaGreatDoorZSeq
import Derived.Test.YtkpbpecikibohaaGreatDoorFG2
import Derived.Test.YtkpbpecikibohaaGreatDoorZRel
import Derived.Test.YtkpbpecikibohaaGreatDoorBG4
import Derived.Test.YtkpbpecikibohaaGreatDoorBG2
set_option linter.unusedSimpArgs false
set_option maxRecDepth 100000
set_option maxHeartbeats 2000000
namespace Go.Proofs.YtkpbpecikibohaaGreatDoor
open Go.RowKit Go.Shelf Go.Maps
open Fm (Nd)
structure New (w w':World) (b:Nat) (cs:Array Value) (T:TypeId):Prop where
 blk:w'.heap[b]?=some (.cells cs T (0,0))
 av:Below w.heap.size w w'
 ge:w.heap.size<=b
 up:w'.heap.size=b+1
 eq:b=w.heap.size
theorem bE (w:World) (cs:Array Value) (T:TypeId):New w (w.alloc (.cells cs T)) w.heap.size cs T :=
 ⟨heap_alloc_last w _,ak w _,Nat.le_refl _,by simp,rfl⟩
def Cl (w:World) (b:Nat) (cs:Array Value) (T:TypeId):Prop:=w.heap[b]?=some (.cells cs T (0,0))
theorem Cl.later {w w':World} {b:Nat} {cs:Array Value} {T:TypeId} (h:Cl w b cs T) (hb:Below w.heap.size w w'):Cl w' b cs T:=(hb.block b (lt_of_block h)).trans h
theorem Cl.lt {w:World} {b:Nat} {cs:Array Value} {T:TypeId} (h:Cl w b cs T):b<w.heap.size:=lt_of_block h
theorem Cl.cell {w:World} {b:Nat} {cs:Array Value} {T:TypeId} (h:Cl w b cs T) (j:Nat):w.cell? ⟨b,j,none⟩=cs[j]?:=cell_of_row w b j _ _ _ h
theorem Cl.fr {w:World} {b:Nat} {cs:Array Value} {T:TypeId} (h:Cl w b cs T) (j:Nat):w.frozen? ⟨b,j,none⟩=false:=frozen_of_row w b j _ _ h
theorem Cl.drew {w:World} {b:Nat} {cs:Array Value} {T:TypeId} (h:Cl w b cs T):Cl w.drew b cs T:=h
def Same (w W:World):Prop:=w.heap.size<=W.heap.size/\∀ (k:Nat) (cs:Array Value) (T:TypeId) (fr:Nat × Nat),w.heap[k]?=some (.cells cs T fr)->(T≠179/\T≠92)->(T≠37/\T≠3)->W.heap[k]?=w.heap[k]?
theorem Same.of_below {w W:World} (h:Below w.heap.size w W):Same w W:=⟨h.size,fun k _ _ _ hk _ _=>h.block k (lt_of_block hk)⟩
theorem Same.refl (w:World):Same w w:=⟨Nat.le_refl _,fun _ _ _ _ _ _ _=>rfl⟩
theorem Same.trans {a b c:World} (h:Same a b) (k:Same b c):Same a c:=⟨Nat.le_trans h.1 k.1,fun i cs T fr hi h1 h2=>by
 have e:=h.2 i cs T fr hi h1 h2
 exact(k.2 i cs T fr (e.trans hi) h1 h2).trans e⟩
theorem Cl.same {w W:World} {b:Nat} {cs:Array Value} {T:TypeId} (h:Cl w b cs T) (h1:T≠179/\T≠92) (h2:T≠37/\T≠3) (hs:Same w W):Cl W b cs T:=(hs.2 b cs T (0,0) h h1 h2).trans h
section
variable {ops:Array Oper} {rest:List Oper} {o:Oper} {a:Act} {Q:Exit->Act->World->Prop} {w:World}
theorem zW (w:World) (T:TypeId) (cs:Array Value):(Instr.box T (.agg cs)).run Tryz.prog w=.ok (.pointer (some ⟨w.heap.size,0,none⟩)) (w.alloc (.cells cs T)):=by
 simp[Instr.box,go_sem]
theorem aC (T:TypeId) (x:Operand) (hop:o.op=Op.box T x) (cs:Array Value) (hx:a.eval x=.agg cs) (hg:o.guard=none)
 (hK:∀ w' b,New w w' b cs T->wpList Tryz.prog ops Q rest (a.put o.dst (.pointer (some ⟨b,0,none⟩))) w'):wpList Tryz.prog ops Q (o :: rest) a w:=by
 refine wpList_plain hg fun K' hK' => ?_
 have hrun:=zW w T cs
 unfold Oper.wp
 simp[execOp,hop,hx,hrun,Result.andThen]
 exact hK' _ _ (hK _ _ (bE w cs T))
theorem fD (T:TypeId) (x:Operand) (hop:o.op=Op.box T x) (v:Value) (hx:a.eval x=v) (hv:v.cells=#[v]) (hg:o.guard=none)
 (hK:∀ w' b,New w w' b #[v] T->wpList Tryz.prog ops Q rest (a.put o.dst (.pointer (some ⟨b,0,none⟩))) w'):wpList Tryz.prog ops Q (o :: rest) a w:=by
 refine wpList_plain hg fun K' hK' => ?_
 have hrun:(Instr.box T v).run Tryz.prog w=.ok (.pointer (some ⟨w.heap.size,0,none⟩)) (w.alloc (.cells #[v] T)):=by
  simp[Instr.box,go_sem]
  exact congrArg (fun c=>w.alloc (Obj.cells c T)) hv
 unfold Oper.wp
 simp[execOp,hop,hx,hrun,Result.andThen]
 exact hK' _ _ (hK _ _ (bE w _ T))
theorem aN (T:TypeId) (hop:o.op=Op.alloc T) (cs:Array Value) (hz:∀ w,(zeroValue T).run Tryz.prog w=.ok (.agg cs) w) (hg:o.guard=none)
 (hK:∀ w' b,New w w' b cs T->wpList Tryz.prog ops Q rest (a.put o.dst (.pointer (some ⟨b,0,none⟩))) w'):wpList Tryz.prog ops Q (o :: rest) a w:=by
 refine wpList_plain hg fun K' hK' => ?_
 unfold Oper.wp
 simp[execOp,hop,Instr.alloc,hz,go_sem,Result.andThen]
 exact hK' _ _ (hK _ _ (bE w _ T))
theorem fO (T:TypeId) (hop:o.op=Op.alloc T) (z:Value) (hz:∀ w,(zeroValue T).run Tryz.prog w=.ok z w) (hc:z.cells=#[z]) (hg:o.guard=none)
 (hK:∀ w' b,New w w' b #[z] T->wpList Tryz.prog ops Q rest (a.put o.dst (.pointer (some ⟨b,0,none⟩))) w'):wpList Tryz.prog ops Q (o :: rest) a w:=by
 refine wpList_plain hg fun K' hK' => ?_
 have hrun:(execOp a.eval o).run Tryz.prog w=.ok (.value (.pointer (some ⟨w.heap.size,0,none⟩))) (w.alloc (.cells #[z] T)):=by
  simp[execOp,hop,Instr.alloc,hz,go_sem,Result.andThen]
  exact congrArg (fun c=>w.alloc (Obj.cells c T)) hc
 unfold Oper.wp
 rw[hrun,Oper.upon_value]
 exact hK' _ _ (hK _ _ (bE w _ T))
theorem aQ (T:TypeId) (hg:o.guard=none) (hd:o.dst=none) (x y:Operand) (hop:o.op=Op.store T x y) (b:Nat) (hx:a.eval x=.pointer (some ⟨b,0,none⟩)) (cs:Array Value) (hy:a.eval y=.agg cs) (old:Array Value) (T0:TypeId) (h:Cl w b old T0)
 (hs:(Tryz.prog.info? T).map (·.size)=some cs.size) (hs':old.size=cs.size) (h1:cs.all (·.oneCell')=true) (hK:∀ w',Cl w' b cs T0->dn b w w'->wpList Tryz.prog ops Q rest a w'):wpList Tryz.prog ops Q (o :: rest) a w:=by
 refine wpList_plain hg fun K' hK' => ?_
 have hrun:(Instr.storeAt T (.pointer (some ⟨b,0,none⟩)) (.agg cs)).run Tryz.prog w=.ok () (w.setRow b cs):=by
  simp only[Instr.storeAt,Instr.sureAddr,Sem.run_bind,Sem.run_pure,Result.andThen]
  exact run_storeVar_row w b T0 T old cs h hs hs' h1
 unfold Oper.wp
 simp[execOp,hop,hx,hy,hrun,Result.andThen]
 rw[Oper.upon_skip,hd]
 exact hK' _ _ (hK _ (setRow_heap w b _ _ _ _ h) (fJ w b cs))
theorem fq (T:TypeId) (x:Operand) (hop:o.op=Op.load T x) (b:Nat) (hx:a.eval x=.pointer (some ⟨b,0,none⟩)) (cs:Array Value) (T0:TypeId) (h:Cl w b cs T0) {d:TypeDesc} (hd:(match d with | .struct _ | .array _ _=>true | _=>false)=true) (hu:Tryz.prog.underlying T=some d) (hi:(Tryz.prog.info? T).map (·.size)=some cs.size)
 (hg:Region.wanted o (yielded ops a.tmps)=true) (hK:wpList Tryz.prog ops Q rest (a.put o.dst (.agg cs)) w):wpList Tryz.prog ops Q (o :: rest) a w:=by
 refine Bt.wpList_want hg fun K' hK' => ?_
 have hrun:(Instr.loadAt T (.pointer (some ⟨b,0,none⟩))).run Tryz.prog w=.ok (.agg cs) w:=by
  simp only[Instr.loadAt,Instr.sureAddr,Sem.run_bind,Sem.run_pure,Result.andThen]
  exact run_loadVar_row w b T0 T cs _ d h hu (by cases d <;> first|rfl | exact hd) hi
 unfold Oper.wp
 simp[execOp,hop,hx,hrun,Result.andThen]
 exact hK' _ _ hK
end
structure Sh where
 id:Int
 k:Int
 a:Int
 b:Int
 q:Int
 c:Int
 d:Int
def bB (m:Sh):Array Value:=#[.int .i64 m.id,.int .i64 m.k,.int .i64 m.a,.int .i64 m.b,.int .i64 m.q,.int .i64 m.c,.int .i64 m.d]
def fB (m:Sh):Value:=.agg (bB m)
def bO (t:List Nd) (i:Int):Sh :=
 ⟨i,(ay t i).k,(ay t i).l,(ay t i).r,if (ay t i).k=5 then (ay t (ay t i).l).k else 0,if (ay t i).k=5 then (ay t (ay t i).l).l else 0,if (ay t i).k=5 then (ay t (ay t i).l).r else 0⟩
def kT:Sh:=⟨0,0,0,0,0,0,0⟩
theorem jW:(Tryz.prog.info? 182).map (·.size)=some 7:=by kernel_rfl
theorem Ce:(Tryz.prog.info? 67).map (·.size)=some 4:=by kernel_rfl
theorem uN (w:World):(zeroValue 182).run Tryz.prog w=.ok (.agg (bB kT)) w:=by kernel_rfl
theorem Cg (w:World):(zeroValue 67).run Tryz.prog w=.ok (.agg (gQ Fm.z).toArray) w:=by kernel_rfl
theorem kX (m:Sh):(bB m).all (·.oneCell')=true:=by simp[bB,Value.oneCell']
theorem cO {w0 w w':World} {b:Nat} {cs:Array Value} {T:TypeId} (h:Below w0.heap.size w0 w) (hn:New w w' b cs T):Below w0.heap.size w0 w':=h.trans (hn.av.mono h.size)
theorem bR {w0 w w':World} {p:Nat} (h:Below w0.heap.size w0 w) (hk:dn p w w') (hp:w0.heap.size<=p):Below w0.heap.size w0 w' :=
 ⟨hk.os.trans h.os,hk.tape.trans h.tape,hk.output.trans h.output,Nat.le_trans h.size hk.size,fun k hk2=>(hk.block k (Nat.lt_of_lt_of_le hk2 h.size) (by omega)).trans (h.block k hk2)⟩
theorem Cl.kp {w w':World} {b p:Nat} {cs:Array Value} {T:TypeId} (h:Cl w b cs T) (hk:dn p w w') (hp:b≠p):Cl w' b cs T:=(hk.block b h.lt hp).trans h
theorem Cl.new {w w':World} {b p:Nat} {cs cs':Array Value} {T T':TypeId} (h:Cl w b cs T) (hn:New w w' p cs' T'):Cl w' b cs T:=h.later hn.av
structure SP (w W:World) (b1 b3 b5:Nat) (n:Nd) (m:Sh):Prop where
 r:Cl W b1 (bB kT) 182
 n:Cl W b3 (gQ n).toArray 67
 s:Cl W b5 (bB m) 182
 av:Below w.heap.size w W
 l1:w.heap.size<=b1
 l3:w.heap.size<=b3
 l5:w.heap.size<=b5
 n1:b1≠b5
theorem SP.later {w W W':World} {b1 b3 b5:Nat} {n:Nd} {m:Sh} (h:SP w W b1 b3 b5 n m) (hb:Below W.heap.size W W'):SP w W' b1 b3 b5 n m :=
 ⟨h.r.later hb,h.n.later hb,h.s.later hb,h.av.trans (hb.mono h.av.size),h.l1,h.l3,h.l5,h.n1⟩
theorem SP.drew {w W:World} {b1 b3 b5:Nat} {n:Nd} {m:Sh} (h:SP w W b1 b3 b5 n m):SP w W.drew b1 b3 b5 n m:=⟨h.r,h.n,h.s,h.av.drew,h.l1,h.l3,h.l5,h.n1⟩
theorem SP.Ah {w W:World} {b1 b3 b5 b8:Nat} {n n2:Nd} {m m':Sh} (h:SP w W b1 b3 b5 n m) (h2:Cl W b8 (gQ n2).toArray 67) (hne:b8≠b5) (j:Nat) (v:Value) (hm:(bB m).setIfInBounds j v=bB m'):SP w (W.setCell ⟨b5,j,none⟩ v) b1 b3 b5 n m'/\Cl (W.setCell ⟨b5,j,none⟩ v) b8 (gQ n2).toArray 67:=by
 have hk:dn b5 W (W.setCell ⟨b5,j,none⟩ v):=dn.set (Kp.refl _ W) j v
 have hs:=heap_setCell_same W b5 j _ _ v h.s
 rw[hm] at hs
 have XO:b3≠b5:=by
  rintro rfl
  have e:=h.n.symm.trans h.s
  simp at e
 exact⟨⟨h.r.kp hk h.n1,h.n.kp hk XO,hs,bR h.av hk h.l5,h.l1,h.l3,h.l5,h.n1⟩,h2.kp hk hne⟩
theorem SP.vW {w W:World} {b1 b3 b5 b8:Nat} {n n2:Nd} {m:Sh} (h:SP w W b1 b3 b5 n m) (h2:Cl W b8 (gQ n2).toArray 67) (hne:b8≠b5) (x:Int):SP w (W.setCell ⟨b5,4,none⟩ (.int .i64 x)) b1 b3 b5 n ⟨m.id,m.k,m.a,m.b,x,m.c,m.d⟩/\Cl (W.setCell ⟨b5,4,none⟩ (.int .i64 x)) b8 (gQ n2).toArray 67:=h.Ah h2 hne 4 (.int .i64 x) rfl
theorem SP.Zy {w W:World} {b1 b3 b5 b8:Nat} {n n2:Nd} {m:Sh} (h:SP w W b1 b3 b5 n m) (h2:Cl W b8 (gQ n2).toArray 67) (hne:b8≠b5) (x:Int):SP w (W.setCell ⟨b5,5,none⟩ (.int .i64 x)) b1 b3 b5 n ⟨m.id,m.k,m.a,m.b,m.q,x,m.d⟩/\Cl (W.setCell ⟨b5,5,none⟩ (.int .i64 x)) b8 (gQ n2).toArray 67:=h.Ah h2 hne 5 (.int .i64 x) rfl
theorem SP.vX {w W:World} {b1 b3 b5 b8:Nat} {n n2:Nd} {m:Sh} (h:SP w W b1 b3 b5 n m) (h2:Cl W b8 (gQ n2).toArray 67) (hne:b8≠b5) (x:Int):SP w (W.setCell ⟨b5,6,none⟩ (.int .i64 x)) b1 b3 b5 n ⟨m.id,m.k,m.a,m.b,m.q,m.c,x⟩/\Cl (W.setCell ⟨b5,6,none⟩ (.int .i64 x)) b8 (gQ n2).toArray 67:=h.Ah h2 hne 6 (.int .i64 x) rfl
theorem zx {fn:Func} {p t2:Tmp} (h:fn.results=#[.cell p 182,.tmp t2]) (tmps:Array Value) (w:World) (b:Nat) (m:Sh) (hp:tmps.getD p undef=.pointer (some ⟨b,0,none⟩)) (hr:Cl w b (bB m) 182) :
 (results fn tmps).run Tryz.prog w=.ok (.tuple #[fB m,tmps.getD t2 undef]) w :=
 results_cell_tmp h tmps w b _ _ _ _ hp hr Tryz.underlying182 rfl (by kernel_rfl)
theorem xH (w:World) {b m:Nat} {v:Value} {t:List Nd} (hT:Tb w b m v t) (i:Int):Calls Tryz.prog 140 #[.pointer (some ⟨b,0,none⟩),.int .i64 i] w fun e w'=>e=.returned (.tuple #[fB (bO t i),.bool (Fm.has t i)])/\Below w.heap.size w w':=by
 have KN:=show Hid (∀ w' x,Below w.heap.size w w'->Calls Tryz.prog 76 #[.pointer (some ⟨b,0,none⟩),.int .i64 x] w' fun e w''=>e=.returned (.tuple #[dY (ay t x),.bool (Fm.has t x)])/\Below w'.heap.size w' w'') from fun w' x h=>uF w' (hT.later h) x
 have HP:=show Hid (bO t i=⟨i,(ay t i).k,(ay t i).l,(ay t i).r,if (ay t i).k=5 then (ay t (ay t i).l).k else 0,if (ay t i).k=5 then (ay t (ay t i).l).l else 0,if (ay t i).k=5 then (ay t (ay t i).l).r else 0⟩) from rfl
 clear hT
 generalize bO t i=sp at *
 go_enter Tryz.func140,Tryz.ntmps140
 go_wp2_with (refine aN _ rfl _ uN rfl ?_)
 intro w1 b1 hn1
 go_wp2_with fail
 refine Calls.mono (KN.out w1 i hn1.av) ?_
 rintro e w2 ⟨rfl,hb2⟩
 obtain⟨n,hn⟩:∃ n,n=ay t i:=⟨_,rfl⟩
 rw[<- hn] at HP
 rw[<- hn]
 have HN:=show Hid _ from hn
 clear hn
 unfold dY
 go_wp2_with (refine aN _ rfl _ Cg rfl ?_)
 intro w3 b3 aL
 go_wp2_with (refine aQ _ rfl rfl _ _ rfl _ rfl _ rfl _ _ aL.blk Ce rfl (by simp[Value.oneCell']) ?_)
 intro w4 hc4 hk4
 have d0:w4.cell? ⟨b3,0,none⟩=some (.int .i64 n.k):=hc4.cell 0
 have d2:w4.cell? ⟨b3,2,none⟩=some (.int .i64 n.l):=hc4.cell 2
 have d3:w4.cell? ⟨b3,3,none⟩=some (.int .i64 n.r):=hc4.cell 3
 have Jj:Below w.heap.size w w2:=hn1.av.trans (hb2.mono hn1.av.size)
 have hb4:Below w.heap.size w w4:=bR (cO Jj aL) hk4 (by have:=Jj.size;have:=aL.ge;omega)
 have H4:=show Hid (Below w.heap.size w w4/\Cl w4 b1 (bB kT) 182/\Cl w4 b3 (gQ n).toArray 67/\w.heap.size<=b1/\w.heap.size<=b3) from
  ⟨hb4,((Cl.later hn1.blk hb2).new aL).kp hk4 (by have:=Cl.lt hn1.blk;have:=hb2.size;have:=aL.ge;omega),hc4,hn1.ge,by have:=Jj.size;have:=aL.ge;omega⟩
 clear hn1 hb2 aL hc4 hk4 Jj hb4
 go_wp2_with (refine aN _ rfl _ uN rfl ?_)
 intro w5 b5 fZ
 have H5:=show Hid (Below w.heap.size w w5/\Cl w5 b1 (bB kT) 182/\Cl w5 b3 (gQ n).toArray 67/\w.heap.size<=b5/\b1<b5/\b3<b5) from
  ⟨cO H4.out.1 fZ,H4.out.2.1.new fZ,H4.out.2.2.1.new fZ,by have:=H4.out.1.size;have:=fZ.ge;omega,by have:=H4.out.2.1.lt;have:=fZ.ge;omega,by have:=H4.out.2.2.1.lt;have:=fZ.ge;omega⟩
 go_wp2_with (refine aQ _ rfl rfl _ _ rfl _ rfl _ rfl _ _ fZ.blk jW rfl (by simp[Value.oneCell']) ?_)
 intro w6 hc6 pO
 have H6:=show Hid (SP w w6 b1 b3 b5 n ⟨i,n.k,n.l,n.r,0,0,0⟩) from
  ⟨H5.out.2.1.kp pO (by have:=H5.out.2.2.2;omega),H5.out.2.2.1.kp pO (by have:=H5.out.2.2.2;omega),hc6,bR H5.out.1 pO H5.out.2.2.2.1,H4.out.2.2.2.1,H4.out.2.2.2.2,H5.out.2.2.2.1,by have:=H5.out.2.2.2;omega⟩
 clear H4 H5 fZ hc6 pO d0 d2 d3
 have d0:w6.cell? ⟨b3,0,none⟩=some (.int .i64 n.k):=H6.out.n.cell 0
 have d2:w6.cell? ⟨b3,2,none⟩=some (.int .i64 n.l):=H6.out.n.cell 2
 by_cases h5:n.k=5
 ·have h5b:(n.k == 5)=true:=by simpa using h5
  rw[if_pos h5,if_pos h5,if_pos h5] at HP
  have KX:=show Hid _ from KN.out w6 n.l H6.out.av
  clear HN KN
  go_wp2_with fail
  refine Calls.mono KX.out ?_
  rintro e w7 ⟨rfl,j4⟩
  have H7:=show Hid _ from H6.out.later j4
  clear KX H6 j4 d0 d2
  generalize ay t n.l=n2 at *
  generalize Fm.has t n.l=hh2 at *
  unfold dY
  go_wp2_with (refine aN _ rfl _ Cg rfl ?_)
  intro w8 b8 uZ
  go_wp2_with (refine aQ _ rfl rfl _ _ rfl _ rfl _ rfl _ _ uZ.blk Ce rfl (by simp[Value.oneCell']) ?_)
  intro w9 sG kD
  have H9:=show Hid (SP w w9 b1 b3 b5 n ⟨i,n.k,n.l,n.r,0,0,0⟩) from(by
   have h:=H7.out.later uZ.av
   have e1:=H7.out.r.lt;have e3:=H7.out.n.lt;have e5:=H7.out.s.lt;have e8:=uZ.ge
   exact⟨h.r.kp kD (by omega),h.n.kp kD (by omega),h.s.kp kD (by omega),bR h.av kD (by have:=H7.out.av.size;omega),h.l1,h.l3,h.l5,h.n1⟩)
  have c0:w9.cell? ⟨b8,0,none⟩=some (.int .i64 n2.k):=sG.cell 0
  have c2:w9.cell? ⟨b8,2,none⟩=some (.int .i64 n2.l):=sG.cell 2
  have c3:w9.cell? ⟨b8,3,none⟩=some (.int .i64 n2.r):=sG.cell 3
  have OM:b8≠b5:=by have:=H7.out.s.lt;have:=uZ.ge;omega
  go_wp2_with fail
  refine bK (by kernel_rfl) [some 35,some 36,some 37,some 38,some 39,some 40,some 41,none,some 42,none,some 43,none] [[],[0],[],[2],[],[4],[],[6,1],[],[8,3],[],[10,5]] (by kernel_rfl) (fun i v w=>match i with | 0=>v=.pointer (some ⟨b8,0,none⟩) | 1=>v=.int .i64 n2.k | 2=>v=.pointer (some ⟨b8,2,none⟩) | 3=>v=.int .i64 n2.l | 4=>v=.pointer (some ⟨b8,3,none⟩) | 5=>v=.int .i64 n2.r | 6=>v=.pointer (some ⟨b5,4,none⟩) | 7=>True | 8=>v=.pointer (some ⟨b5,5,none⟩) | 9=>True | 10=>v=.pointer (some ⟨b5,6,none⟩) | 11=>True | _=>True) (fun done W=>SP w W b1 b3 b5 n ⟨i,n.k,n.l,n.r,if done 7 then n2.k else 0,if done 9 then n2.l else 0,if done 11 then n2.r else 0⟩/\Cl W b8 (gQ n2).toArray 67) (fun _ _=>True) ?hle (⟨H9.out.drew,sG⟩) (dL 12 ?steps) ?fin
  case hle=>
   intro i v w w1 hl h
   match i,h with
   | 0,h=>exact h
   | 1,h=>exact h
   | 2,h=>exact h
   | 3,h=>exact h
   | 4,h=>exact h
   | 5,h=>exact h
   | 6,h=>exact h
   | 7,h=>exact h
   | 8,h=>exact h
   | 9,h=>exact h
   | 10,h=>exact h
   | 11,h=>exact h
   | _+12,h=>trivial
  case steps=>
   refine⟨⟨⟨⟨⟨⟨⟨⟨⟨⟨⟨⟨trivial,?s0⟩,?s1⟩,?s2⟩,?s3⟩,?s4⟩,?s5⟩,?s6⟩,?s7⟩,?s8⟩,?s9⟩,?s10⟩,?s11⟩
   case s0=>
    intro done a w hS h0 hd hn hO hN
    have o9:a.tmps[9]?=some (.pointer (some ⟨b8,0,none⟩)):=outs hO 9 rfl
    refine ah rfl (.pointer (some ⟨b8,0,none⟩)) w rfl (by go_simp) ⟨_,rfl,rfl,by simpa[h0] using hS,trivial⟩
   case s1=>
    intro done a w hS h0 hd hn hO hN
    obtain⟨v0,g0,r0⟩:=aj hN 0 35
    obtain rfl:v0=.pointer (some ⟨b8,0,none⟩):=r0
    have hc:w.cell? ⟨b8,0,none⟩=some (.int .i64 n2.k):=hS.2.cell 0
    refine ah rfl (.int .i64 n2.k) w rfl (by go_simp) ⟨_,rfl,rfl,by simpa[h0] using hS,trivial⟩
   case s2=>
    intro done a w hS h0 hd hn hO hN
    have o9:a.tmps[9]?=some (.pointer (some ⟨b8,0,none⟩)):=outs hO 9 rfl
    refine ah rfl (.pointer (some ⟨b8,2,none⟩)) w rfl (by go_simp) ⟨_,rfl,rfl,by simpa[h0] using hS,trivial⟩
   case s3=>
    intro done a w hS h0 hd hn hO hN
    obtain⟨v2,g2,r2⟩:=aj hN 2 37
    obtain rfl:v2=.pointer (some ⟨b8,2,none⟩):=r2
    have hc:w.cell? ⟨b8,2,none⟩=some (.int .i64 n2.l):=hS.2.cell 2
    refine ah rfl (.int .i64 n2.l) w rfl (by go_simp) ⟨_,rfl,rfl,by simpa[h0] using hS,trivial⟩
   case s4=>
    intro done a w hS h0 hd hn hO hN
    have o9:a.tmps[9]?=some (.pointer (some ⟨b8,0,none⟩)):=outs hO 9 rfl
    refine ah rfl (.pointer (some ⟨b8,3,none⟩)) w rfl (by go_simp) ⟨_,rfl,rfl,by simpa[h0] using hS,trivial⟩
   case s5=>
    intro done a w hS h0 hd hn hO hN
    obtain⟨v4,g4,r4⟩:=aj hN 4 39
    obtain rfl:v4=.pointer (some ⟨b8,3,none⟩):=r4
    have hc:w.cell? ⟨b8,3,none⟩=some (.int .i64 n2.r):=hS.2.cell 3
    refine ah rfl (.int .i64 n2.r) w rfl (by go_simp) ⟨_,rfl,rfl,by simpa[h0] using hS,trivial⟩
   case s6=>
    intro done a w hS h0 hd hn hO hN
    have o8:a.tmps[8]?=some (.pointer (some ⟨b5,0,none⟩)):=outs hO 8 rfl
    refine ah rfl (.pointer (some ⟨b5,4,none⟩)) w rfl (by go_simp) ⟨_,rfl,rfl,by simpa[h0] using hS,trivial⟩
   case s7=>
    intro done a w hS h0 hd hn hO hN
    obtain⟨v6,g6,r6⟩:=aj hN 6 41
    obtain rfl:v6=.pointer (some ⟨b5,4,none⟩):=r6
    obtain⟨v1,g1,r1⟩:=aj hN 1 36
    obtain rfl:v1=.int .i64 n2.k:=r1
    obtain⟨xx,hcc⟩:∃ x,w.cell? ⟨b5,4,none⟩=some x:=⟨_,hS.1.s.cell 4⟩
    have hf:=hS.1.s.fr 4
    have HS:=hS.1.vW hS.2 OM (n2.k)
    refine oP rfl (w.setCell ⟨b5,4,none⟩ (.int .i64 (n2.k))) rfl (by go_simp) ⟨undef,rfl,trivial,?_,trivial⟩
    simpa[h0] using HS
   case s8=>
    intro done a w hS h0 hd hn hO hN
    have o8:a.tmps[8]?=some (.pointer (some ⟨b5,0,none⟩)):=outs hO 8 rfl
    refine ah rfl (.pointer (some ⟨b5,5,none⟩)) w rfl (by go_simp) ⟨_,rfl,rfl,by simpa[h0] using hS,trivial⟩
   case s9=>
    intro done a w hS h0 hd hn hO hN
    obtain⟨v8,g8,r8⟩:=aj hN 8 42
    obtain rfl:v8=.pointer (some ⟨b5,5,none⟩):=r8
    obtain⟨v3,g3,r3⟩:=aj hN 3 38
    obtain rfl:v3=.int .i64 n2.l:=r3
    obtain⟨xx,hcc⟩:∃ x,w.cell? ⟨b5,5,none⟩=some x:=⟨_,hS.1.s.cell 5⟩
    have hf:=hS.1.s.fr 5
    have HS:=hS.1.Zy hS.2 OM (n2.l)
    refine oP rfl (w.setCell ⟨b5,5,none⟩ (.int .i64 (n2.l))) rfl (by go_simp) ⟨undef,rfl,trivial,?_,trivial⟩
    simpa[h0] using HS
   case s10=>
    intro done a w hS h0 hd hn hO hN
    have o8:a.tmps[8]?=some (.pointer (some ⟨b5,0,none⟩)):=outs hO 8 rfl
    refine ah rfl (.pointer (some ⟨b5,6,none⟩)) w rfl (by go_simp) ⟨_,rfl,rfl,by simpa[h0] using hS,trivial⟩
   case s11=>
    intro done a w hS h0 hd hn hO hN
    obtain⟨v10,g10,bS⟩:=aj hN 10 43
    obtain rfl:v10=.pointer (some ⟨b5,6,none⟩):=bS
    obtain⟨v5,g5,r5⟩:=aj hN 5 40
    obtain rfl:v5=.int .i64 n2.r:=r5
    obtain⟨xx,hcc⟩:∃ x,w.cell? ⟨b5,6,none⟩=some x:=⟨_,hS.1.s.cell 6⟩
    have hf:=hS.1.s.fr 6
    have HS:=hS.1.vX hS.2 OM (n2.r)
    refine oP rfl (w.setCell ⟨b5,6,none⟩ (.int .i64 (n2.r))) rfl (by go_simp) ⟨undef,rfl,trivial,?_,trivial⟩
    simpa[h0] using HS
  case fin=>
   intro vs done wz hdone hS hR
   have HZ:=show Hid (SP w wz b1 b3 b5 n sp) from(by
    have h:=hS.1
    rw[if_pos (hdone 7 (by decide)),if_pos (hdone 9 (by decide)),if_pos (hdone 11 (by decide))] at h
    rw[HP.out]
    exact h)
   clear hS hR hdone H9 H7 uZ sG kD c0 c2 c3 HP
   simp only[bn,Act.put,List.setIfInBounds_toArray,List.set_cons_zero,List.set_cons_succ]
   go_wp2_with (first|(refine fq _ _ rfl _ rfl _ _ HZ.out.s rfl Tryz.underlying182 jW rfl ?_)|(refine aQ _ rfl rfl _ _ rfl _ rfl _ rfl _ _ HZ.out.r jW rfl (kX _) ?_))
   intro w7 mF iI
   go_wp2_with fail
   refine bodyPost_ret (zx rfl _ _ b1 _ rfl mF) rfl ?_
   exact⟨rfl,bR HZ.out.av iI HZ.out.l1⟩
 ·have h5b:(n.k == 5)=false:=by simpa using h5
  have hsp:sp=⟨i,n.k,n.l,n.r,0,0,0⟩:=by rw[HP.out,if_neg h5,if_neg h5,if_neg h5]
  subst hsp
  clear HP HN KN
  go_wp2_with (first|(refine fq _ _ rfl _ rfl _ _ H6.out.s rfl Tryz.underlying182 jW rfl ?_)|(refine aQ _ rfl rfl _ _ rfl _ rfl _ rfl _ _ H6.out.r jW rfl (kX _) ?_))
  intro w7 mF iI
  go_wp2_with fail
  refine bodyPost_ret (zx rfl _ _ b1 _ rfl mF) rfl ?_
  exact⟨rfl,bR H6.out.av iI H6.out.l1⟩
open Bt.Bs (Ok wd)
structure Q2 (w W:World) (r:List Nat) (g:Int):Prop where
 s:bM W w.heap.size r g
 z:bM W (w.heap.size+1) Bt.Bs.zero 0
 av:Below w.heap.size w W
theorem Q2.later {w W W':World} {r:List Nat} {g:Int} (h:Q2 w W r g) (hb:Below W.heap.size W W'):Q2 w W' r g :=
 ⟨h.s.later hb h.s.lt,h.z.later hb h.z.lt,h.av.trans (hb.mono h.av.size)⟩
theorem Q2.put {w W W2:World} {r r':List Nat} {g g':Int} (h:Q2 w W r g) (hs:bM W2 w.heap.size r' g') (hk:dn w.heap.size W W2):Q2 w W2 r' g' :=
 ⟨hs,(hk.block _ h.z.lt (by omega)).trans h.z,⟨hk.os.trans h.av.os,hk.tape.trans h.av.tape,hk.output.trans h.av.output,Nat.le_trans h.av.size hk.size,fun k hk2=>(hk.block k (Nat.lt_of_lt_of_le hk2 h.av.size) (by omega)).trans (h.av.block k hk2)⟩⟩
theorem yh (w:World):(zeroValue 53).run Tryz.prog w=.ok (.agg (au Bt.Bs.zero 0)) w:=by kernel_rfl
theorem tH {w w1 w2:World} {b1 b2:Nat} {r:List Nat} {g:Int} (h1:New w w1 b1 (au r g) 53) (h2:New w1 w2 b2 (au Bt.Bs.zero 0) 53):b1=w.heap.size/\b2=w.heap.size+1/\Q2 w w2 r g:=by
 have e1:=h1.eq
 have e2:=h2.eq
 have e3:=h1.up
 subst e1
 have e4:b2=w.heap.size+1:=by omega
 subst e4
 exact⟨rfl,rfl,(h2.av.block _ (lt_of_block h1.blk)).trans h1.blk,h2.blk,h1.av.trans (h2.av.mono h1.av.size)⟩
theorem rE (w:World) {r:List Nat} (hr:r.length=16) (g x:Int):Calls Tryz.prog 133 #[.agg (au r g),.int .i64 x] w fun e w'=>e=.returned (.agg (au r x))/\Below w.heap.size w w':=by
 go_enter Tryz.func133,Tryz.ntmps133
 go_wp2_with (refine aC _ _ rfl _ rfl rfl ?_)
 intro w1 b1 hn1
 go_wp2_with (refine aN _ rfl _ yh rfl ?_)
 intro w2 b2 hn2
 obtain⟨rfl,rfl,hq⟩:=tH hn1 hn2
 clear hn1 hn2
 have h16:=hq.s.goal hr
 have f16:=hq.s.fr 16
 have HQ:=show Hid _ from hq.put (hq.s.Zp hr x) (dn.set (Kp.refl _ w2) 16 (.int .i64 x))
 clear hq
 go_wp2_with (first|(refine dU _ _ rfl _ rfl HQ.out.s hr rfl ?_)|(refine zn _ rfl rfl _ _ rfl _ rfl rfl HQ.out.z x9 hr ?_))
 refine bodyPost_ret (rz rfl _ _ (w.heap.size+1) rfl (HQ.out.z.setRow _ _) hr) rfl ?_
 exact⟨rfl,below_setRow HQ.out.av (Nat.le_succ _)⟩
def aD:List Nat->List Int->List Nat
 | r,[]=>r
 | r,x :: l=>aD (Bt.iP r x).1 l
theorem yj {r:List Nat} (h:Ok r) (n:Int):Ok (Bt.iP r n).1:=by
 unfold Bt.iP
 split
 ·exact Bt.Bs.jy h _
 ·exact Bt.Bs.fH
theorem gK:∀ (l:List Int) {r:List Nat},Ok r->Ok (aD r l)
 | [],_,h=>h
 | x :: l,_,h=>gK l (yj h x)
theorem Jk (r:List Nat) (l:List Int) (k:Nat) (hk:k<l.length):aD r (l.drop k)=aD (Bt.iP r l[k]).1 (l.drop (k+1)):=by
 rw[List.drop_eq_getElem_cons hk,aD]
theorem iR (w:World) {r:List Nat} (hr:Ok r) (g:Int) (v:Value) (xs:List Int) (hv:Bt.nY w v xs):Calls Tryz.prog 123 #[.agg (au r g),v] w fun e w'=>e=.returned (.agg (au (aD r xs) g))/\Below w.heap.size w w':=by
 obtain⟨p,c,rfl,hlen,hcell⟩:=hv
 have KP:=show Hid (∀ (b:List Nat) (x:Int) w,Ok b->Calls Tryz.prog 154 #[.agg (Bt.aG b),.int .i64 x] w fun e w'=>e=.returned (.tuple #[.agg (Bt.aG (Bt.iP b x).1),.int .i64 (Bt.iP b x).2])/\Below w.heap.size w w') from fun b x w hb=>Bt.wN w hb x
 have HC:=show Hid (∀ k (hk:k<xs.length),∃ b o,p=some ⟨b,o,none⟩/\w.cell? ⟨b,o+k,none⟩=some (.int .i64 xs[k])) from hcell
 have HD:=show Hid (∀ k (hk:k<xs.length) b,aD b (xs.drop k)=aD (Bt.iP b xs[k]).1 (xs.drop (k+1))) from fun k hk b=>Jk b xs k hk
 have HN:=show Hid (∀ b,aD b (xs.drop xs.length)=b) from fun b=>by
  show aD b (xs.drop xs.length)=b
  rw[List.drop_length];rfl
 have H0:=show Hid (aD r (xs.drop 0)=aD r xs) from rfl
 have HR:=show Hid (Ok r) from hr
 clear hcell hr
 generalize aD r xs=R at *
 go_enter Tryz.func123,Tryz.ntmps123
 go_wp2_with (refine aC _ _ rfl _ rfl rfl ?_)
 intro w1 b1 hn1
 go_wp2_with (refine aN _ rfl _ yh rfl ?_)
 intro w2 b2 hn2
 obtain⟨rfl,rfl,hq⟩:=tH hn1 hn2
 have HQ:=show Hid _ from hq
 clear hn1 hn2 hq
 go_wp2_with fail
 go_loopw [9] (fun n wr=>∃ (k:Nat) (b:List Nat),k<=xs.length/\n=.int .i64 (k:Int)/\Hid (Ok b/\Q2 w wr b g/\aD b (xs.drop k)=R)) (fun n _=>xs.length - (intOf n).toNat)
 case atStart=>exact⟨0,r,by omega,rfl,HR.out,HQ.out,H0.out⟩
 case round=>
  obtain⟨k,b,hk,rfl,HI⟩:=hrel
  clear HQ H0 HR
  have hl:=HI.out.1.1
  by_cases hlt:k<xs.length
  ·obtain⟨bb,o,rfl,hc0⟩:=HC.out k hlt
   have hc:wr.cell? ⟨bb,o+k,none⟩=some (.int .i64 xs[k]):=cell_later HI.out.2.1.av hc0
   have Dz:(k:Int)<(xs.length:Int):=by omega
   have KX:=show Hid _ from KP.out b xs[k] wr HI.out.1
   have HD2:=show Hid _ from HD.out k hlt b
   have Yr:=show Hid _ from yj HI.out.1 xs[k]
   clear HC HD HN hc0 KP
   generalize xs[k]=x at *
   go_wp2_with (refine I6 _ _ rfl _ rfl HI.out.2.1.s hl rfl ?_)
   refine Calls.mono KX.out ?_
   rintro e w1 ⟨rfl,hb1⟩
   have U1:=show Hid _ from HI.out.2.1.later hb1
   have HR2:=show Hid (aD (Bt.iP b x).1 (xs.drop (k+1))=R) from HD2.out.symm.trans HI.out.2.2
   generalize (Bt.iP b x).1=b' at *
   clear KX hb1 HD2 hc
   go_wp2_with (refine xE _ rfl rfl _ _ rfl _ rfl rfl U1.out.s hl Yr.out.1 ?_)
   intro w3 hs3 hk3
   have HQ3:=show Hid _ from U1.out.put hs3 hk3
   clear hs3 hk3 U1
   go_wp2_with fail
   go_roundw
   case rel=>exact⟨k+1,b',by omega,gB (by omega),Yr.out,HQ3.out,HR2.out⟩
   case measure=>(simp only[intOf];omega)
  ·obtain rfl:k=xs.length:=by omega
   have hR:=HN.out b
   rw[HI.out.2.2] at hR
   subst hR
   clear HC HD HN KP
   go_wp2_with (first|(refine dU _ _ rfl _ rfl HI.out.2.1.s hl rfl ?_)|(refine zn _ rfl rfl _ _ rfl _ rfl rfl HI.out.2.1.z x9 hl ?_))
   refine bodyPost_ret (rz rfl _ _ (w.heap.size+1) rfl (HI.out.2.1.z.setRow _ _) hl) rfl ?_
   exact⟨rfl,below_setRow HI.out.2.1.av (Nat.le_succ _)⟩
def vY (b:Nat) (r:List Nat) (g:Int) (tv:Value) (fl:Bool):Array Value:=([Value.pointer (some ⟨b,0,none⟩)] ++ (Bt.bP r ++ [Value.int .i64 g]) ++ [tv,Value.bool fl]).toArray
def Wk (w:World) (k b:Nat) (r:List Nat) (g:Int) (tv:Value) (fl:Bool):Prop:=Cl w k (vY b r g tv fl) 174
section
variable {w w':World} {k b:Nat} {r:List Nat} {g:Int} {tv:Value} {fl:Bool}
theorem Wk.later (h:Wk w k b r g tv fl) (hb:Below w.heap.size w w'):Wk w' k b r g tv fl:=Cl.later h hb
theorem Wk.tab (h:Wk w k b r g tv fl):w.cell? ⟨k,0,none⟩=some (.pointer (some ⟨b,0,none⟩)):=by rw[Cl.cell h 0];rfl
theorem Wk.seq (h:Wk w k b r g tv fl):og w k 1 r g:=fun j v hv=>by
 rw[Cl.cell h (1+j)]
 have hj:=(List.getElem?_eq_some_iff.1 hv).1
 simp only[vY,List.getElem?_toArray]
 rw[List.getElem?_append_left (by simp at hj |-;omega),List.getElem?_append_right (by simp)]
 simpa using hv
theorem Wk.goal (h:Wk w k b r g tv fl) (hr:r.length=16):w.cell? ⟨k,17,none⟩=some (.int .i64 g):=h.seq.goal hr
theorem Wk.U2 (h:Wk w k b r g tv fl) (hr:r.length=16):w.cell? ⟨k,18,none⟩=some tv:=by
 rw[Cl.cell h 18]
 have hl:(Bt.bP r).length=16:=(by simp[Bt.bP,hr])
 simp only[vY,List.getElem?_toArray]
 rw[List.getElem?_append_right (by simp[hl])]
 simp[hl]
theorem Wk.U3 (h:Wk w k b r g tv fl) (hr:r.length=16):w.cell? ⟨k,19,none⟩=some (.bool fl):=by
 rw[Cl.cell h 19]
 have hl:(Bt.bP r).length=16:=(by simp[Bt.bP,hr])
 simp only[vY,List.getElem?_toArray]
 rw[List.getElem?_append_right (by simp[hl])]
 simp[hl]
end
def dX (r:List Nat) (x:Int):Bool:=decide ((Bt.iP r x).1=r)
def I1 (v:Value) (x:Int) (w:World):Prop:=∃ q,v=.slice (some ⟨q,0,none⟩) 1 1/\w.cell? ⟨q,0,none⟩=some (.int .i64 x)
theorem I1.gP {v:Value} {x:Int} {w:World} (h:I1 v x w):Bt.nY w v [x]:=by
 obtain⟨q,rfl,hc⟩:=h
 refine⟨_,_,rfl,by simp,fun k hk=>⟨q,0,rfl,?_⟩⟩
 obtain rfl:k=0:=by simpa using hk
 simpa using hc
theorem I1.later {v:Value} {x:Int} {w w':World} (h:I1 v x w) (hb:Below w.heap.size w w'):I1 v x w':=by
 obtain⟨q,hv,hc⟩:=h
 exact⟨q,hv,cell_later hb hc⟩
theorem DT (w:World) (x:Int) (T:TypeId):I1 (.slice (some ⟨w.heap.size,0,none⟩) 1 1) x (w.alloc (.cells #[.int .i64 x] T)):=⟨_,rfl,by rw[World.cell?_alloc_new];rfl⟩
def I2 (v:Value) (x y:Int) (w:World):Prop:=∃ q,v=.slice (some ⟨q,0,none⟩) 2 2/\w.cell? ⟨q,0,none⟩=some (.int .i64 x)/\w.cell? ⟨q,1,none⟩=some (.int .i64 y)
theorem I2.gP {v:Value} {x y:Int} {w:World} (h:I2 v x y w):Bt.nY w v [x,y]:=by
 obtain⟨q,rfl,hc,hd⟩:=h
 refine⟨_,_,rfl,by simp,fun k hk=>⟨q,0,rfl,?_⟩⟩
 match k,hk with
 | 0,_=>simpa using hc
 | 1,_=>simpa using hd
theorem I2.later {v:Value} {x y:Int} {w w':World} (h:I2 v x y w) (hb:Below w.heap.size w w'):I2 v x y w':=by
 obtain⟨q,hv,hc,hd⟩:=h
 exact⟨q,hv,cell_later hb hc,cell_later hb hd⟩
theorem Jl (r:List Nat) (x g:Int):jG r x r g=(x == g):=by simp[jG]
theorem Jm (r r':List Nat) (g:Int):jG r' g r g=decide (r'=r):=by simp[jG]
theorem zy (w0:World) {k b:Nat} {r:List Nat} {g:Int} {tv:Value} {fl:Bool} (hW:Wk w0 k b r g tv fl) (hr:Ok r) (x:Int):Calls Tryz.prog 120 #[.pointer (some ⟨k,0,none⟩),.int .i64 x] w0 fun e w'=>e=.returned (.bool (x == g))/\Below w0.heap.size w0 w':=by
 have HW:=show Hid (∀ W,Below w0.heap.size w0 W->Wk W k b r g tv fl) from fun W h=>hW.later h
 clear hW
 go_enter Tryz.func120,Tryz.ntmps120
 go_wp2_with fail
 refine bK (by kernel_rfl) [some 5,some 6,some 7,some 8,some 9,some 10,some 11,some 12,some 13,some 14,some 15,some 4] [[],[0],[1],[2],[],[3,4],[],[6],[7],[8],[5,9],[10]] (by kernel_rfl) (fun i v w=>match i with | 0=>v=.pointer (some ⟨k,0,none⟩) | 1=>v=.pointer (some ⟨k,0,none⟩) | 2=>v=.pointer (some ⟨k,1,none⟩) | 3=>v=.agg (au r g) | 4=>v=.int .i64 x | 5=>v=.agg (au r x) | 6=>v=.pointer (some ⟨k,0,none⟩) | 7=>v=.pointer (some ⟨k,0,none⟩) | 8=>v=.pointer (some ⟨k,1,none⟩) | 9=>v=.agg (au r g) | 10=>v=.bool (jG (r) (x) (r) (g)) | 11=>v=.bool (jG r x r g) | _=>True) (fun _ W=>Below w0.heap.size w0 W) (fun W W'=>Below W.heap.size W W') ?hle ((Below.refl _ _).drew) (dL 12 ?steps) ?fin
 case hle=>
  intro i v w w1 hl h
  match i,h with
  | 0,h=>exact h
  | 1,h=>exact h
  | 2,h=>exact h
  | 3,h=>exact h
  | 4,h=>exact h
  | 5,h=>exact h
  | 6,h=>exact h
  | 7,h=>exact h
  | 8,h=>exact h
  | 9,h=>exact h
  | 10,h=>exact h
  | 11,h=>exact h
  | _+12,h=>trivial
 case steps=>
  refine⟨⟨⟨⟨⟨⟨⟨⟨⟨⟨⟨⟨trivial,?s0⟩,?s1⟩,?s2⟩,?s3⟩,?s4⟩,?s5⟩,?s6⟩,?s7⟩,?s8⟩,?s9⟩,?s10⟩,?s11⟩
  case s0=>
   intro done a w hS h0 hd hn hO hN
   have o0:a.tmps[0]?=some (.pointer (some ⟨k,0,none⟩)):=outs hO 0 rfl
   refine ah rfl (.pointer (some ⟨k,0,none⟩)) w rfl (by go_simp) ⟨_,rfl,rfl,by simpa[h0] using hS,Below.refl _ _⟩
  case s1=>
   intro done a w hS h0 hd hn hO hN
   obtain⟨v0,g0,r0⟩:=aj hN 0 5
   obtain rfl:v0=.pointer (some ⟨k,0,none⟩):=r0
   refine ah rfl (.pointer (some ⟨k,0,none⟩)) w rfl (by go_simp) ⟨_,rfl,rfl,by simpa[h0] using hS,Below.refl _ _⟩
  case s2=>
   intro done a w hS h0 hd hn hO hN
   obtain⟨v1,g1,r1⟩:=aj hN 1 6
   obtain rfl:v1=.pointer (some ⟨k,0,none⟩):=r1
   refine ah rfl (.pointer (some ⟨k,1,none⟩)) w rfl (by go_simp) ⟨_,rfl,rfl,by simpa[h0] using hS,Below.refl _ _⟩
  case s3=>
   intro done a w hS h0 hd hn hO hN
   obtain⟨v2,g2,r2⟩:=aj hN 2 7
   obtain rfl:v2=.pointer (some ⟨k,1,none⟩):=r2
   have hl:=j6 w k 1 (HW.out w hS).seq hr.1
   refine ah rfl (.agg (au r g)) w rfl (by simp[execOp,Act.eval,g2,hl,Result.andThen]) ⟨_,rfl,rfl,by simpa[h0] using hS,Below.refl _ _⟩
  case s4=>
   intro done a w hS h0 hd hn hO hN
   have o1:a.tmps[1]?=some (.int .i64 x):=outs hO 1 rfl
   refine ah rfl (.int .i64 x) w rfl (by go_simp) ⟨_,rfl,rfl,by simpa[h0] using hS,Below.refl _ _⟩
  case s5=>
   intro done a w hS h0 hd hn hO hN
   obtain⟨v3,g3,r3⟩:=aj hN 3 8
   obtain rfl:v3=.agg (au r g):=r3
   obtain⟨v4,g4,r4⟩:=aj hN 4 9
   obtain rfl:v4=.int .i64 x:=r4
   refine aW rfl rfl 133 [.tmp 8,.tmp 9] #[53,3] rfl [.agg (au r g),.int .i64 x] (by simp[Act.eval,g3,g4]) (enters_of Tryz.func133 (by kernel_rfl) rfl) (Calls.mono (rE w hr.1 g x) ?_)
   rintro e w1 ⟨rfl,hb⟩
   exact⟨_,rfl,_,rfl,rfl,hS.trans (hb.mono hS.size),hb⟩
  case s6=>
   intro done a w hS h0 hd hn hO hN
   have o0:a.tmps[0]?=some (.pointer (some ⟨k,0,none⟩)):=outs hO 0 rfl
   refine ah rfl (.pointer (some ⟨k,0,none⟩)) w rfl (by go_simp) ⟨_,rfl,rfl,by simpa[h0] using hS,Below.refl _ _⟩
  case s7=>
   intro done a w hS h0 hd hn hO hN
   obtain⟨v6,g6,r6⟩:=aj hN 6 11
   obtain rfl:v6=.pointer (some ⟨k,0,none⟩):=r6
   refine ah rfl (.pointer (some ⟨k,0,none⟩)) w rfl (by go_simp) ⟨_,rfl,rfl,by simpa[h0] using hS,Below.refl _ _⟩
  case s8=>
   intro done a w hS h0 hd hn hO hN
   obtain⟨v7,g7,r7⟩:=aj hN 7 12
   obtain rfl:v7=.pointer (some ⟨k,0,none⟩):=r7
   refine ah rfl (.pointer (some ⟨k,1,none⟩)) w rfl (by go_simp) ⟨_,rfl,rfl,by simpa[h0] using hS,Below.refl _ _⟩
  case s9=>
   intro done a w hS h0 hd hn hO hN
   obtain⟨v8,g8,r8⟩:=aj hN 8 13
   obtain rfl:v8=.pointer (some ⟨k,1,none⟩):=r8
   have hl:=j6 w k 1 (HW.out w hS).seq hr.1
   refine ah rfl (.agg (au r g)) w rfl (by simp[execOp,Act.eval,g8,hl,Result.andThen]) ⟨_,rfl,rfl,by simpa[h0] using hS,Below.refl _ _⟩
  case s10=>
   intro done a w hS h0 hd hn hO hN
   obtain⟨v5,g5,r5⟩:=aj hN 5 10
   obtain rfl:v5=.agg (au r x):=r5
   obtain⟨v9,g9,r9⟩:=aj hN 9 14
   obtain rfl:v9=.agg (au r g):=r9
   have hq:=(GN w (p:=r) (q:=r) hr.1 hr.1 (x) (g)).1
   refine ah rfl (.bool (jG (r) (x) (r) (g))) w rfl (by simp[execOp,Act.eval,g5,g9,eqGuard,hq,Result.andThen]) ⟨_,rfl,rfl,hS,?_⟩
   exact Below.refl _ _
  case s11=>
   intro done a w hS h0 hd hn hO hN
   obtain⟨v10,g10,bS⟩:=aj hN 10 15
   obtain rfl:v10=.bool (jG (r) (x) (r) (g)):=bS
   refine ah rfl (.bool (jG r x r g)) w rfl (by go_simp) ⟨_,rfl,rfl,by simpa[h0] using hS,Below.refl _ _⟩
 case fin=>
  intro vs done w hdone hS hR
  simp only[bn,Act.put,List.setIfInBounds_toArray,List.set_cons_zero,List.set_cons_succ]
  have Bo:vs 11=.bool (jG r x r g):=hR 11 (by decide)
  rw[Bo,Jl]
  have HS:=show Hid _ from hS
  clear hS hR hdone Bo
  go_wp2_with fail
  go_ret
  exact⟨rfl,HS.out⟩
theorem qN (w0:World) {k b:Nat} {r:List Nat} {g:Int} {tv:Value} {fl:Bool} (hW:Wk w0 k b r g tv fl) (hr:Ok r) (x:Int):Calls Tryz.prog 121 #[.pointer (some ⟨k,0,none⟩),.int .i64 x] w0 fun e w'=>e=.returned (.bool (dX r x))/\Below w0.heap.size w0 w':=by
 have HW:=show Hid (∀ W,Below w0.heap.size w0 W->Wk W k b r g tv fl) from fun W h=>hW.later h
 clear hW
 go_enter Tryz.func121,Tryz.ntmps121
 go_wp2_with fail
 refine bK (by kernel_rfl) [some 5,some 6,some 7,some 8,some 9,some 10,some 11,some 12,some 13,some 14,some 15,some 16,some 4] [[],[0],[1],[2],[],[4],[3,5],[],[7],[8],[9],[6,10],[11]] (by kernel_rfl) (fun i v w=>match i with | 0=>v=.pointer (some ⟨k,0,none⟩) | 1=>v=.pointer (some ⟨k,0,none⟩) | 2=>v=.pointer (some ⟨k,1,none⟩) | 3=>v=.agg (au r g) | 4=>v=.int .i64 x | 5=>I1 v x w | 6=>v=.agg (au (aD r [x]) g) | 7=>v=.pointer (some ⟨k,0,none⟩) | 8=>v=.pointer (some ⟨k,0,none⟩) | 9=>v=.pointer (some ⟨k,1,none⟩) | 10=>v=.agg (au r g) | 11=>v=.bool (jG (aD r [x]) (g) (r) (g)) | 12=>v=.bool (jG (aD r [x]) g r g) | _=>True) (fun _ W=>Below w0.heap.size w0 W) (fun W W'=>Below W.heap.size W W') ?hle ((Below.refl _ _).drew) (dL 13 ?steps) ?fin
 case hle=>
  intro i v w w1 hl h
  match i,h with
  | 0,h=>exact h
  | 1,h=>exact h
  | 2,h=>exact h
  | 3,h=>exact h
  | 4,h=>exact h
  | 5,h=>exact I1.later h hl
  | 6,h=>exact h
  | 7,h=>exact h
  | 8,h=>exact h
  | 9,h=>exact h
  | 10,h=>exact h
  | 11,h=>exact h
  | 12,h=>exact h
  | _+13,h=>trivial
 case steps=>
  refine⟨⟨⟨⟨⟨⟨⟨⟨⟨⟨⟨⟨⟨trivial,?s0⟩,?s1⟩,?s2⟩,?s3⟩,?s4⟩,?s5⟩,?s6⟩,?s7⟩,?s8⟩,?s9⟩,?s10⟩,?s11⟩,?s12⟩
  case s0=>
   intro done a w hS h0 hd hn hO hN
   have o0:a.tmps[0]?=some (.pointer (some ⟨k,0,none⟩)):=outs hO 0 rfl
   refine ah rfl (.pointer (some ⟨k,0,none⟩)) w rfl (by go_simp) ⟨_,rfl,rfl,by simpa[h0] using hS,Below.refl _ _⟩
  case s1=>
   intro done a w hS h0 hd hn hO hN
   obtain⟨v0,g0,r0⟩:=aj hN 0 5
   obtain rfl:v0=.pointer (some ⟨k,0,none⟩):=r0
   refine ah rfl (.pointer (some ⟨k,0,none⟩)) w rfl (by go_simp) ⟨_,rfl,rfl,by simpa[h0] using hS,Below.refl _ _⟩
  case s2=>
   intro done a w hS h0 hd hn hO hN
   obtain⟨v1,g1,r1⟩:=aj hN 1 6
   obtain rfl:v1=.pointer (some ⟨k,0,none⟩):=r1
   refine ah rfl (.pointer (some ⟨k,1,none⟩)) w rfl (by go_simp) ⟨_,rfl,rfl,by simpa[h0] using hS,Below.refl _ _⟩
  case s3=>
   intro done a w hS h0 hd hn hO hN
   obtain⟨v2,g2,r2⟩:=aj hN 2 7
   obtain rfl:v2=.pointer (some ⟨k,1,none⟩):=r2
   have hl:=j6 w k 1 (HW.out w hS).seq hr.1
   refine ah rfl (.agg (au r g)) w rfl (by simp[execOp,Act.eval,g2,hl,Result.andThen]) ⟨_,rfl,rfl,by simpa[h0] using hS,Below.refl _ _⟩
  case s4=>
   intro done a w hS h0 hd hn hO hN
   have o1:a.tmps[1]?=some (.int .i64 x):=outs hO 1 rfl
   refine ah rfl (.int .i64 x) w rfl (by go_simp) ⟨_,rfl,rfl,by simpa[h0] using hS,Below.refl _ _⟩
  case s5=>
   intro done a w hS h0 hd hn hO hN
   obtain⟨v4,g4,r4⟩:=aj hN 4 9
   obtain rfl:v4=.int .i64 x:=r4
   refine ah rfl (.slice (some ⟨w.heap.size,0,none⟩) 1 1) (w.alloc (.cells #[.int .i64 x] 3)) rfl (by go_simp) ⟨_,rfl,DT w x _,hS.alloc hS.size _,ak w _⟩
  case s6=>
   intro done a w hS h0 hd hn hO hN
   obtain⟨v3,g3,r3⟩:=aj hN 3 8
   obtain rfl:v3=.agg (au r g):=r3
   obtain⟨v5,g5,r5⟩:=aj hN 5 10
   refine aW rfl rfl 123 [.tmp 8,.tmp 10] #[53,37] rfl [.agg (au r g),v5] (by simp[Act.eval,g3,g5]) (enters_of Tryz.func123 (by kernel_rfl) rfl) (Calls.mono (iR w hr g v5 [x] r5.gP) ?_)
   rintro e w1 ⟨rfl,hb⟩
   exact⟨_,rfl,_,rfl,rfl,hS.trans (hb.mono hS.size),hb⟩
  case s7=>
   intro done a w hS h0 hd hn hO hN
   have o0:a.tmps[0]?=some (.pointer (some ⟨k,0,none⟩)):=outs hO 0 rfl
   refine ah rfl (.pointer (some ⟨k,0,none⟩)) w rfl (by go_simp) ⟨_,rfl,rfl,by simpa[h0] using hS,Below.refl _ _⟩
  case s8=>
   intro done a w hS h0 hd hn hO hN
   obtain⟨v7,g7,r7⟩:=aj hN 7 12
   obtain rfl:v7=.pointer (some ⟨k,0,none⟩):=r7
   refine ah rfl (.pointer (some ⟨k,0,none⟩)) w rfl (by go_simp) ⟨_,rfl,rfl,by simpa[h0] using hS,Below.refl _ _⟩
  case s9=>
   intro done a w hS h0 hd hn hO hN
   obtain⟨v8,g8,r8⟩:=aj hN 8 13
   obtain rfl:v8=.pointer (some ⟨k,0,none⟩):=r8
   refine ah rfl (.pointer (some ⟨k,1,none⟩)) w rfl (by go_simp) ⟨_,rfl,rfl,by simpa[h0] using hS,Below.refl _ _⟩
  case s10=>
   intro done a w hS h0 hd hn hO hN
   obtain⟨v9,g9,r9⟩:=aj hN 9 14
   obtain rfl:v9=.pointer (some ⟨k,1,none⟩):=r9
   have hl:=j6 w k 1 (HW.out w hS).seq hr.1
   refine ah rfl (.agg (au r g)) w rfl (by simp[execOp,Act.eval,g9,hl,Result.andThen]) ⟨_,rfl,rfl,by simpa[h0] using hS,Below.refl _ _⟩
  case s11=>
   intro done a w hS h0 hd hn hO hN
   obtain⟨v6,g6,r6⟩:=aj hN 6 11
   obtain rfl:v6=.agg (au (aD r [x]) g):=r6
   obtain⟨v10,g10,bS⟩:=aj hN 10 15
   obtain rfl:v10=.agg (au r g):=bS
   have hq:=(GN w (p:=aD r [x]) (q:=r) (gK [x] hr).1 hr.1 (g) (g)).1
   refine ah rfl (.bool (jG (aD r [x]) (g) (r) (g))) w rfl (by simp[execOp,Act.eval,g6,g10,eqGuard,hq,Result.andThen]) ⟨_,rfl,rfl,hS,?_⟩
   exact Below.refl _ _
  case s12=>
   intro done a w hS h0 hd hn hO hN
   obtain⟨v11,g11,bW⟩:=aj hN 11 16
   obtain rfl:v11=.bool (jG (aD r [x]) (g) (r) (g)):=bW
   refine ah rfl (.bool (jG (aD r [x]) g r g)) w rfl (by go_simp) ⟨_,rfl,rfl,by simpa[h0] using hS,Below.refl _ _⟩
 case fin=>
  intro vs done w hdone hS hR
  simp only[bn,Act.put,List.setIfInBounds_toArray,List.set_cons_zero,List.set_cons_succ]
  have Bo:vs 12=.bool (jG (aD r [x]) g r g):=hR 12 (by decide)
  rw[Bo,Jm]
  have HS:=show Hid _ from hS
  clear hS hR hdone Bo
  go_wp2_with fail
  go_ret
  exact⟨rfl,HS.out⟩
theorem gu {r:List Nat} (h:Ok r) (n:Int):Ok (Bt.bT r n):=by
 unfold Bt.bT
 split
 ·exact Bt.Bs.nH h _
 ·exact h
theorem jB (w0:World) {k b:Nat} {r:List Nat} {g:Int} {tv:Value} {fl:Bool} (hW:Wk w0 k b r g tv fl) (hr:Ok r) (m:Sh):Calls Tryz.prog 124 #[.pointer (some ⟨k,0,none⟩),fB m] w0 fun e w'=>e=.returned (.agg (au (Bt.bT r m.id) g))/\Below w0.heap.size w0 w':=by
 have HW:=show Hid (∀ W,Below w0.heap.size w0 W->Wk W k b r g tv fl) from fun W h=>hW.later h
 have hD:=gu hr m.id
 clear hW
 unfold fB
 go_enter Tryz.func124,Tryz.ntmps124
 go_wp2_with (refine aC _ _ rfl _ rfl rfl ?_)
 intro w1 b3 hn1
 go_wp2_with (refine aN _ rfl _ yh rfl ?_)
 intro w2 b4 hn2
 have H2:=show Hid (Below w0.heap.size w0 w2/\Cl w2 b3 (bB m) 182/\bM w2 b4 Bt.Bs.zero 0) from⟨cO hn1.av hn2,Cl.new hn1.blk hn2,hn2.blk⟩
 have hl4:w0.heap.size<=b4:=by have:=hn1.av.size;have:=hn2.ge;omega
 have hne:b3≠b4:=by have:=Cl.lt hn1.blk;have:=hn2.ge;omega
 clear hn1 hn2
 go_wp2_with fail
 refine bK (by kernel_rfl) [some 5,some 6,some 7,some 8,some 9,some 10,some 11,some 12,some 13,some 14,some 15,some 16,some 17,some 18,none] [[],[0],[1],[2],[3],[],[5],[4,6],[],[8],[9],[10],[11],[7,12],[13]] (by kernel_rfl) (fun i v w=>match i with | 0=>v=.pointer (some ⟨k,0,none⟩) | 1=>v=.pointer (some ⟨k,0,none⟩) | 2=>v=.pointer (some ⟨k,1,none⟩) | 3=>v=.pointer (some ⟨k,1,none⟩) | 4=>v=.agg (Bt.aG r) | 5=>v=.pointer (some ⟨b3,0,none⟩) | 6=>v=.int .i64 m.id | 7=>v=.agg (Bt.aG (Bt.bT r m.id)) | 8=>v=.pointer (some ⟨k,0,none⟩) | 9=>v=.pointer (some ⟨k,0,none⟩) | 10=>v=.pointer (some ⟨k,1,none⟩) | 11=>v=.pointer (some ⟨k,17,none⟩) | 12=>v=.int .i64 g | 13=>v=.agg (au (Bt.bT r m.id) g) | 14=>True | _=>True) (fun done W=>Below w0.heap.size w0 W/\Cl W b3 (bB m) 182/\bM W b4 (if done 14 then Bt.bT r m.id else Bt.Bs.zero) (if done 14 then g else 0)) (fun _ _=>True) ?hle (⟨H2.out.1.drew,H2.out.2.1,H2.out.2.2⟩) (dL 15 ?steps) ?fin
 case hle=>
  intro i v w w1 hl h
  match i,h with
  | 0,h=>exact h
  | 1,h=>exact h
  | 2,h=>exact h
  | 3,h=>exact h
  | 4,h=>exact h
  | 5,h=>exact h
  | 6,h=>exact h
  | 7,h=>exact h
  | 8,h=>exact h
  | 9,h=>exact h
  | 10,h=>exact h
  | 11,h=>exact h
  | 12,h=>exact h
  | 13,h=>exact h
  | 14,h=>exact h
  | _+15,h=>trivial
 case steps=>
  refine⟨⟨⟨⟨⟨⟨⟨⟨⟨⟨⟨⟨⟨⟨⟨trivial,?s0⟩,?s1⟩,?s2⟩,?s3⟩,?s4⟩,?s5⟩,?s6⟩,?s7⟩,?s8⟩,?s9⟩,?s10⟩,?s11⟩,?s12⟩,?s13⟩,?kg⟩
  case s0=>
   intro done a w hS h0 hd hn hO hN
   have o0:a.tmps[0]?=some (.pointer (some ⟨k,0,none⟩)):=outs hO 0 rfl
   refine ah rfl (.pointer (some ⟨k,0,none⟩)) w rfl (by go_simp) ⟨_,rfl,rfl,by simpa[h0] using hS,trivial⟩
  case s1=>
   intro done a w hS h0 hd hn hO hN
   obtain⟨v0,g0,r0⟩:=aj hN 0 5
   obtain rfl:v0=.pointer (some ⟨k,0,none⟩):=r0
   refine ah rfl (.pointer (some ⟨k,0,none⟩)) w rfl (by go_simp) ⟨_,rfl,rfl,by simpa[h0] using hS,trivial⟩
  case s2=>
   intro done a w hS h0 hd hn hO hN
   obtain⟨v1,g1,r1⟩:=aj hN 1 6
   obtain rfl:v1=.pointer (some ⟨k,0,none⟩):=r1
   refine ah rfl (.pointer (some ⟨k,1,none⟩)) w rfl (by go_simp) ⟨_,rfl,rfl,by simpa[h0] using hS,trivial⟩
  case s3=>
   intro done a w hS h0 hd hn hO hN
   obtain⟨v2,g2,r2⟩:=aj hN 2 7
   obtain rfl:v2=.pointer (some ⟨k,1,none⟩):=r2
   refine ah rfl (.pointer (some ⟨k,1,none⟩)) w rfl (by go_simp) ⟨_,rfl,rfl,by simpa[h0] using hS,trivial⟩
  case s4=>
   intro done a w hS h0 hd hn hO hN
   obtain⟨v3,g3,r3⟩:=aj hN 3 8
   obtain rfl:v3=.pointer (some ⟨k,1,none⟩):=r3
   have hl:=RS w k 1 (HW.out w hS.1).seq hr.1
   refine ah rfl (.agg (Bt.aG r)) w rfl (by simp[execOp,Act.eval,g3,hl,Result.andThen]) ⟨_,rfl,rfl,by simpa[h0] using hS,trivial⟩
  case s5=>
   intro done a w hS h0 hd hn hO hN
   have o3:a.tmps[3]?=some (.pointer (some ⟨b3,0,none⟩)):=outs hO 3 rfl
   refine ah rfl (.pointer (some ⟨b3,0,none⟩)) w rfl (by go_simp) ⟨_,rfl,rfl,by simpa[h0] using hS,trivial⟩
  case s6=>
   intro done a w hS h0 hd hn hO hN
   obtain⟨v5,g5,r5⟩:=aj hN 5 10
   obtain rfl:v5=.pointer (some ⟨b3,0,none⟩):=r5
   have hc:w.cell? ⟨b3,0,none⟩=some (.int .i64 m.id):=hS.2.1.cell 0
   refine ah rfl (.int .i64 m.id) w rfl (by go_simp) ⟨_,rfl,rfl,by simpa[h0] using hS,trivial⟩
  case s7=>
   intro done a w hS h0 hd hn hO hN
   obtain⟨v4,g4,r4⟩:=aj hN 4 9
   obtain rfl:v4=.agg (Bt.aG r):=r4
   obtain⟨v6,g6,r6⟩:=aj hN 6 11
   obtain rfl:v6=.int .i64 m.id:=r6
   refine aW rfl rfl 155 [.tmp 9,.tmp 11] #[51,3] rfl [.agg (Bt.aG r),.int .i64 m.id] (by simp[Act.eval,g4,g6]) (enters_of Tryz.func155 (by kernel_rfl) rfl) (Calls.mono (Bt.Oe w hr m.id) ?_)
   rintro e w1 ⟨rfl,hb⟩
   exact⟨_,rfl,_,rfl,rfl,⟨hS.1.trans (hb.mono hS.1.size),hS.2.1.later hb,by simpa using hS.2.2.later hb hS.2.2.lt⟩,trivial⟩
  case s8=>
   intro done a w hS h0 hd hn hO hN
   have o0:a.tmps[0]?=some (.pointer (some ⟨k,0,none⟩)):=outs hO 0 rfl
   refine ah rfl (.pointer (some ⟨k,0,none⟩)) w rfl (by go_simp) ⟨_,rfl,rfl,by simpa[h0] using hS,trivial⟩
  case s9=>
   intro done a w hS h0 hd hn hO hN
   obtain⟨v8,g8,r8⟩:=aj hN 8 13
   obtain rfl:v8=.pointer (some ⟨k,0,none⟩):=r8
   refine ah rfl (.pointer (some ⟨k,0,none⟩)) w rfl (by go_simp) ⟨_,rfl,rfl,by simpa[h0] using hS,trivial⟩
  case s10=>
   intro done a w hS h0 hd hn hO hN
   obtain⟨v9,g9,r9⟩:=aj hN 9 14
   obtain rfl:v9=.pointer (some ⟨k,0,none⟩):=r9
   refine ah rfl (.pointer (some ⟨k,1,none⟩)) w rfl (by go_simp) ⟨_,rfl,rfl,by simpa[h0] using hS,trivial⟩
  case s11=>
   intro done a w hS h0 hd hn hO hN
   obtain⟨v10,g10,bS⟩:=aj hN 10 15
   obtain rfl:v10=.pointer (some ⟨k,1,none⟩):=bS
   refine ah rfl (.pointer (some ⟨k,17,none⟩)) w rfl (by go_simp) ⟨_,rfl,rfl,by simpa[h0] using hS,trivial⟩
  case s12=>
   intro done a w hS h0 hd hn hO hN
   obtain⟨v11,g11,bW⟩:=aj hN 11 16
   obtain rfl:v11=.pointer (some ⟨k,17,none⟩):=bW
   have hc:=(HW.out w hS.1).goal hr.1
   refine ah rfl (.int .i64 g) w rfl (by go_simp) ⟨_,rfl,rfl,by simpa[h0] using hS,trivial⟩
  case s13=>
   intro done a w hS h0 hd hn hO hN
   obtain⟨v7,g7,r7⟩:=aj hN 7 12
   obtain rfl:v7=.agg (Bt.aG (Bt.bT r m.id)):=r7
   obtain⟨v12,g12,dB⟩:=aj hN 12 17
   obtain rfl:v12=.int .i64 g:=dB
   have hq:=Uj w hD.1 g
   refine ah rfl (.agg (au (Bt.bT r m.id) g)) w rfl (by simp[execOp,Act.eval,g7,g12,hq,Result.andThen]) ⟨_,rfl,rfl,by simpa[h0] using hS,trivial⟩
  case kg=>
   intro done a w hS h0 hd hn hO hN
   obtain⟨v13,g13,dD⟩:=aj hN 13 18
   obtain rfl:v13=.agg (au (Bt.bT r m.id) g):=dD
   have o4:a.tmps[4]?=some (.pointer (some ⟨b4,0,none⟩)):=outs hO 4 rfl
   have hz:=hS.2.2
   rw[if_neg (by simp[h0]),if_neg (by simp[h0])] at hz
   have hq:=LM (r':=Bt.bT r m.id) (g':=g) w b4 hz x9 hD.1
   refine oP rfl (w.setRow b4 (au (Bt.bT r m.id) g)) rfl (by simp[execOp,Act.eval,g13,o4,hq,Result.andThen]) ⟨undef,rfl,trivial,⟨below_setRow hS.1 hl4,hS.2.1.kp (fJ w b4 _) hne,?_⟩,trivial⟩
   simpa using hz.setRow (Bt.bT r m.id) g
 case fin=>
  intro vs done w hdone hS hR
  have hq:=hS.2.2
  rw[if_pos (hdone 14 (by decide)),if_pos (hdone 14 (by decide))] at hq
  have HS:=show Hid _ from hS.1
  have HQ:=show Hid _ from hq
  clear hS hR hdone hq
  simp only[bn,Act.put,List.setIfInBounds_toArray,List.set_cons_zero,List.set_cons_succ]
  go_wp2_with fail
  refine bodyPost_ret (rz rfl _ _ b4 rfl HQ.out hD.1) rfl ?_
  exact⟨rfl,HS.out⟩
end Go.Proofs.YtkpbpecikibohaaGreatDoor

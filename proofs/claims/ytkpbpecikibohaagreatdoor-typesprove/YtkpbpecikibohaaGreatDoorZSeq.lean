import Derived.Test.YtkpbpecikibohaaGreatDoorBG5
import Derived.Test.YtkpbpecikibohaaGreatDoorFG2
import Derived.Laws.StructEq
set_option linter.unusedSimpArgs false
set_option maxRecDepth 100000
namespace Go.Proofs.YtkpbpecikibohaaGreatDoor
open Go.RowKit Go.Shelf Go.Maps
open Fm (Nd)
open Bt.Bs (Ok wd)
def dn (p:Nat) (w w':World):Prop:=Kp (fun k=>k=p) w w'
theorem dn.trans {p:Nat} {a b c:World} (h:dn p a b) (k:dn p b c):dn p a c:=Kp.trans h k fun _ e=>Or.inl e
theorem dn.of_below {p:Nat} {a b:World} (h:Below a.heap.size a b):dn p a b:=Kp.of_below h
theorem dn.set {p:Nat} {a b:World} (h:dn p a b) (j:Nat) (x:Value):dn p a (b.setCell ⟨p,j,none⟩ x) :=
 ⟨h.os,h.tape,h.output,Nat.le_trans h.size (by simp),fun k hk hn=>(Below.heap_setCell b ⟨p,j,none⟩ x k hn).trans (h.block k hk hn)⟩
theorem wU:(Tryz.prog.info? 53).map (·.size)=some 17:=by kernel_rfl
theorem uK (r:List Nat) (g:Int):(au r g).all (·.oneCell')=true:=by
 simp[au,Bt.bP,Value.oneCell']
theorem LM (w:World) (b:Nat) {r r':List Nat} {g g':Int} (h:bM w b r g) (hs:r.length=16) (hs':r'.length=16):(Instr.storeAt 53 (.pointer (some ⟨b,0,none⟩)) (.agg (au r' g'))).run Tryz.prog w=.ok () (w.setRow b (au r' g')):=by
 simp only[Instr.storeAt,Instr.sureAddr,Sem.run_bind,Sem.run_pure,Result.andThen]
 exact run_storeVar_row w b 53 53 (au r g) (au r' g') h (by rw[wU,iM hs']) (by rw[iM hs,iM hs']) (uK r' g')
theorem bM.setRow {w:World} {b:Nat} {r:List Nat} {g:Int} (h:bM w b r g) (r':List Nat) (g':Int):bM (w.setRow b (au r' g')) b r' g':=setRow_heap w b _ _ _ _ h
theorem bM.all {w:World} {b:Nat} {r:List Nat} {g:Int} (h:bM w b r g):w.rangeAt b 0 (Bt.bP r ++ [.int .i64 g]):=fun j v hv=>by
 rw[cell_of_row w b _ _ _ _ h,Nat.zero_add]
 simp only[au,List.getElem?_toArray]
 exact hv
theorem Ol (w:World) (b:Nat) {r:List Nat} {g:Int} (h:bM w b r g) (hs:r.length=16):(loadVar 53 ⟨b,0,none⟩).run Tryz.prog w=.ok (.agg (au r g)) w :=
 run_loadVar_mid (P:=Tryz.prog) w b 0 53 (Bt.bP r ++ [.int .i64 g]) _ h.all Tryz.underlying53 rfl (by rw[wU];simp[Bt.bP,hs])
theorem zn {ops:Array Oper} {rest:List Oper} {o:Oper} {a:Act} {Q:Exit->Act->World->Prop} (w:World) (hg:o.guard=none) (hd:o.dst=none) (x y:Operand) (hop:o.op=Op.store 53 x y) (b:Nat) (hx:a.eval x=.pointer (some ⟨b,0,none⟩))
 {r':List Nat} {g':Int} (hy:a.eval y=.agg (au r' g')) {r:List Nat} {g:Int} (h:bM w b r g) (hs:r.length=16) (hs':r'.length=16) (hK:wpList Tryz.prog ops Q rest a (w.setRow b (au r' g'))):wpList Tryz.prog ops Q (o :: rest) a w:=by
 refine wpList_plain hg fun K' hK' => ?_
 have hrun:=LM (g':=g') w b h hs hs'
 unfold Oper.wp
 simp[execOp,hop,hx,hy,hrun,Result.andThen]
 rw[Oper.upon_skip,hd]
 exact hK' _ _ hK
theorem below_setRow {w0 w:World} {b:Nat} {c:Array Value} (h:Below w0.heap.size w0 w) (hb:w0.heap.size<=b):Below w0.heap.size w0 (w.setRow b c) :=
 ⟨h.os,h.tape,h.output,by have:=h.size;simpa using this,fun k hk=>(setRow_other w b k c (by omega)).trans (h.block k hk)⟩
theorem Om (w:World) (r0 r1 r2 r3 r4 r5 r6 r7 r8 r9 bS bW dB dD dF dP:Nat) (g:Int):(Instr.build 53 #[(0,.agg (Bt.aG [r0,r1,r2,r3,r4,r5,r6,r7,r8,r9,bS,bW,dB,dD,dF,dP])),(1,.int .i64 g)]).run Tryz.prog w=.ok (.agg (au [r0,r1,r2,r3,r4,r5,r6,r7,r8,r9,bS,bW,dB,dD,dF,dP] g)) w:=by kernel_rfl
theorem Uj (w:World) {r:List Nat} (hr:r.length=16) (g:Int):(Instr.build 53 #[(0,.agg (Bt.aG r)),(1,.int .i64 g)]).run Tryz.prog w=.ok (.agg (au r g)) w:=by
 match r,hr with
 | [r0,r1,r2,r3,r4,r5,r6,r7,r8,r9,bS,bW,dB,dD,dF,dP],_=>exact Om w r0 r1 r2 r3 r4 r5 r6 r7 r8 r9 bS bW dB dD dF dP g
theorem x9:Bt.Bs.zero.length=16:=rfl
theorem pU (w:World) (b:Nat) {r:List Nat} {g:Int} (h:bM w b r g) (hs:r.length=16):(Instr.loadAt 53 (.pointer (some ⟨b,0,none⟩))).run Tryz.prog w=.ok (.agg (au r g)) w :=
 run_loadAt_mid (P:=Tryz.prog) w b 0 53 (Bt.bP r ++ [.int .i64 g]) _ h.all Tryz.underlying53 rfl (by rw[wU];simp[Bt.bP,hs])
theorem dU {ops:Array Oper} {rest:List Oper} {o:Oper} {a:Act} {Q:Exit->Act->World->Prop} (w:World) (x:Operand) (hop:o.op=Op.load 53 x) (b:Nat) (hx:a.eval x=.pointer (some ⟨b,0,none⟩))
 {r:List Nat} {g:Int} (h:bM w b r g) (hs:r.length=16) (hg:Region.wanted o (yielded ops a.tmps)=true) (hK:wpList Tryz.prog ops Q rest (a.put o.dst (.agg (au r g))) w):wpList Tryz.prog ops Q (o :: rest) a w:=by
 refine Bt.wpList_want hg fun K' hK' => ?_
 have hrun:=pU w b h hs
 unfold Oper.wp
 simp[execOp,hop,hx,hrun,Result.andThen]
 exact hK' _ _ hK
def Aa (c:Array Value):Nat->List Value->Array Value
 | _,[]=>c
 | o,v :: r=>Aa (c.setIfInBounds o v) (o+1) r
theorem oO (b:Nat) (t:TypeId):∀ (vs:List Value) (o:Nat) (w:World) (c:Array Value),w.heap[b]?=some (.cells c t (0,0))->(w.setCells b o vs).heap[b]?=some (.cells (Aa c o vs) t (0,0))
 | [],_,_,_,h=>h
 | v :: r,o,w,c,h=>oO b t r (o+1) (w.setCell ⟨b,o,none⟩ v) (c.setIfInBounds o v) (heap_setCell_same w b o _ _ _ h)
theorem sQ (b:Nat):∀ (vs:List Value) (o:Nat) (w:World),dn b w (w.setCells b o vs)
 | [],_,w=>Kp.refl _ w
 | v :: r,o,w=>(dn.set (Kp.refl _ w) o v).trans (sQ b r (o+1) (w.setCell ⟨b,o,none⟩ v))
theorem Uk (a0 a1 a2 a3 a4 a5 a6 a7 a8 a9 LU LV a12 Yh Yi Yj r0 r1 r2 r3 r4 r5 r6 r7 r8 r9 bS bW dB dD dF dP:Nat) (g:Int):Aa (au [a0,a1,a2,a3,a4,a5,a6,a7,a8,a9,LU,LV,a12,Yh,Yi,Yj] g) 0 (Bt.bP [r0,r1,r2,r3,r4,r5,r6,r7,r8,r9,bS,bW,dB,dD,dF,dP])=au [r0,r1,r2,r3,r4,r5,r6,r7,r8,r9,bS,bW,dB,dD,dF,dP] g:=by kernel_rfl
theorem Zo {r r':List Nat} (h:r.length=16) (h':r'.length=16) (g:Int):Aa (au r g) 0 (Bt.bP r')=au r' g:=by
 match r,h with
 | [a0,a1,a2,a3,a4,a5,a6,a7,a8,a9,LU,LV,a12,Yh,Yi,Yj],_=>
  match r',h' with
  | [r0,r1,r2,r3,r4,r5,r6,r7,r8,r9,bS,bW,dB,dD,dF,dP],_=>exact Uk ..
theorem RJ (w:World) (b:Nat) {r r':List Nat} {g:Int} (h:bM w b r g) (hs:r.length=16) (hs':r'.length=16):∃ w',(Instr.storeAt 51 (.pointer (some ⟨b,0,none⟩)) (.agg (Bt.aG r'))).run Tryz.prog w=.ok () w'/\bM w' b r' g/\dn b w w':=by
 refine⟨_,run_storeAt_mid (P:=Tryz.prog) w b 0 51 (Bt.aG r') ?_ ?_ ?_,?_,sQ b _ 0 w⟩
 ·intro j hj
  have hj':j<16:=by rw[Bt.gG hs'] at hj;exact hj
  refine⟨?_,h.fr _⟩
  have:=h.range j ((Bt.bP r)[j]'(by simp[Bt.bP,hs];exact hj')) (by rw[List.getElem?_eq_getElem])
  rw[this]
  rfl
 ·rw[Bt.qK,Bt.gG hs']
 ·simp[Bt.aG,Value.oneCell']
 ·have:=oO b 53 (Bt.aG r').toList 0 w _ h
  rw[show(Bt.aG r').toList=Bt.bP r' from by simp[Bt.aG,Bt.bP],Zo hs hs'] at this
  exact this
theorem xE {ops:Array Oper} {rest:List Oper} {o:Oper} {a:Act} {Q:Exit->Act->World->Prop} (w:World) (hg:o.guard=none) (hd:o.dst=none) (x y:Operand) (hop:o.op=Op.store 51 x y) (b:Nat) (hx:a.eval x=.pointer (some ⟨b,0,none⟩))
 {r':List Nat} (hy:a.eval y=.agg (Bt.aG r')) {r:List Nat} {g:Int} (h:bM w b r g) (hs:r.length=16) (hs':r'.length=16) (hK:∀ w',bM w' b r' g->dn b w w'->wpList Tryz.prog ops Q rest a w'):wpList Tryz.prog ops Q (o :: rest) a w:=by
 refine wpList_plain hg fun K' hK' => ?_
 obtain⟨w',hrun,h1,h2⟩:=RJ w b h hs hs'
 unfold Oper.wp
 simp[execOp,hop,hx,hy,hrun,Result.andThen]
 rw[Oper.upon_skip,hd]
 exact hK' _ _ (hK w' h1 h2)
theorem fJ (w:World) (b:Nat) (c:Array Value):dn b w (w.setRow b c):=⟨rfl,rfl,rfl,by simp,fun k _ hk=>setRow_other w b k c hk⟩
theorem jm {w:World} {g b m:Nat} {cur:Array Value} {ty:TypeId} {fr:Nat × Nat} {v:Value} {t:List Nd} (h:w.heap[g]?=some (.cells cur ty fr)) (h1:ty≠131) (h2:ty≠67) (hT:Tb w b m v t):¬ Ft b m v g:=by
 rintro(rfl | rfl | e)
 ·rw[hT.tab] at h
  injection h with h
  injection h with _ h3 _
  exact h1 h3.symm
 ·obtain⟨D,⟨es,cl,hm,_⟩,_⟩:=hT.map
  rw[h] at hm;cases hm
 ·obtain⟨_,cur',hh⟩:=hT.row.lt g e
  rw[h] at hh
  injection hh with hh
  injection hh with _ h3 _
  exact h2 h3
theorem zo {fs:List Field} {a d:String} {b e:TypeId} {c f:Nat} (h:fs.map (fun f=>(f.name,f.type,f.offset))=[(a,b,c),(d,e,f)]) :
 ∃ f1 f2,fs=[f1,f2]/\(f1.name=a/\f1.type=b/\f1.offset=c)/\f2.name=d/\f2.type=e/\f2.offset=f:=by
 match fs,h with
 | [f1,f2],h=>
  simp only[List.map_cons,List.map_nil,List.cons.injEq,Prod.mk.injEq,and_true] at h
  exact⟨f1,f2,rfl,h.1,h.2⟩
theorem Dt {P:Program} (w:World) (d:Nat) (t:TypeId) (xs ys:Array Value) (ht:P.underlying t=some (.struct (P.fieldsOf t))) (hp:P.stoodInHeld t=false) {n1 n2:String} {t1 t2:TypeId} {o1 o2:Nat}
 (hf : (P.fieldsOf t).toList.map (fun f => (f.name, f.type, f.offset)) = [(n1, t1, o1), (n2, t2, o2)]) (m1 : n1 ≠ "_") (m2 : n2 ≠ "_") {a1 b1 a2 b2 : Value}
 (h1:(part t1 xs o1).run P w=.ok a1 w) (h1':(part t1 ys o1).run P w=.ok b1 w) (h2:(part t2 xs o2).run P w=.ok a2 w) (h2':(part t2 ys o2).run P w=.ok b2 w) {p q:Bool}
 (e1:(Op.equalIn d t1 a1 b1).run P w=.ok p w) (e2:(Op.equalIn d t2 a2 b2).run P w=.ok q w):(Op.equalIn (d+1) t (.agg xs) (.agg ys)).run P w=.ok (p && q) w:=by
 obtain⟨f1,f2,hfs,⟨rfl,rfl,rfl⟩,rfl,rfl,rfl⟩:=zo hf
 rw[run_equalIn_struct w d t xs ys ht hp,hfs,Op.eqFields,if_pos m1]
 simp only[Sem.run_bind,h1,h1',e1,Result.andThen_ok]
 cases p
 ·simp
 ·simp only[Bool.not_true,Bool.false_eq_true,if_false,Bool.true_and]
  rw[Op.eqFields,if_pos m2]
  simp only[Sem.run_bind,h2,h2',e2,Result.andThen_ok]
  cases q <;> simp[Op.eqFields]
theorem Oo {P:Program} (w:World) (t:TypeId) (xs ys:Array Value) {q:Bool} (h:(Op.equalIn (9999+1) t (.agg xs) (.agg ys)).run P w=.ok q w):(binOp .eql t (.agg xs) (.agg ys)).run P w=.ok (.bool q) w/\(binOp .neq t (.agg xs) (.agg ys)).run P w=.ok (.bool (!q)) w:=by
 rw[run_eql_struct,run_neq_struct,show(10000:Nat)=9999+1 from rfl,h]
 exact⟨rfl,rfl⟩
theorem Oq {p q:List Nat} (hp:p.length=16) (hq:q.length=16):((List.range 16).all fun i=>wd p i == wd q i)=decide (p=q):=by
 rw[Bool.eq_iff_iff,decide_eq_true_iff,List.all_eq_true]
 constructor
 ·intro h
  exact Bt.Bs.Lx hp hq fun i hi=>by simpa using h i (List.mem_range.2 hi)
 ·rintro rfl i _
  simp
theorem Du (w:World) (d:Nat) {p q:List Nat} (hp:p.length=16) (hq:q.length=16):(Op.equalIn (d+1+1) 51 (.agg (Bt.aG p)) (.agg (Bt.aG q))).run Tryz.prog w=.ok (decide (p=q)) w:=by
 obtain⟨i0,hi0⟩:∃ i0,Tryz.prog.info? 49=some i0:=by
  cases h:Tryz.prog.info? 49 with
  | none=>have:=Bt.z8;simp[Program.cellsOf,h] at this
  | some i=>exact⟨i,rfl⟩
 rw[run_equalIn_array w (d+1) (Bt.aG p) (Bt.aG q) Bt.l6 hi0,Bt.z8,Bt.vQ w d hp hq _ (fun i hi=>List.mem_range.1 hi),Oq hp hq]
theorem RN:Tryz.prog.underlying 53=some (.struct (Tryz.prog.fieldsOf 53)):=by kernel_rfl
theorem Xi:Tryz.prog.stoodInHeld 53=false:=by kernel_rfl
theorem RO : (Tryz.prog.fieldsOf 53).toList.map (fun f => (f.name, f.type, f.offset)) = [("Left", 51, 0), ("Goal", 3, 16)] := by kernel_rfl
theorem Ul:Tryz.prog.underlying 3=some (.int .i64):=by kernel_rfl
theorem RP (w:World) (r0 r1 r2 r3 r4 r5 r6 r7 r8 r9 bS bW dB dD dF dP:Nat) (g:Int):(part 51 (au [r0,r1,r2,r3,r4,r5,r6,r7,r8,r9,bS,bW,dB,dD,dF,dP] g) 0).run Tryz.prog w=.ok (.agg (Bt.aG [r0,r1,r2,r3,r4,r5,r6,r7,r8,r9,bS,bW,dB,dD,dF,dP])) w:=by kernel_rfl
theorem RQ (w:World) (r0 r1 r2 r3 r4 r5 r6 r7 r8 r9 bS bW dB dD dF dP:Nat) (g:Int):(part 3 (au [r0,r1,r2,r3,r4,r5,r6,r7,r8,r9,bS,bW,dB,dD,dF,dP] g) 16).run Tryz.prog w=.ok (.int .i64 g) w:=by kernel_rfl
theorem Qm (w:World) {r:List Nat} (hr:r.length=16) (g:Int):(part 51 (au r g) 0).run Tryz.prog w=.ok (.agg (Bt.aG r)) w:=by
 match r,hr with
 | [r0,r1,r2,r3,r4,r5,r6,r7,r8,r9,bS,bW,dB,dD,dF,dP],_=>exact RP w r0 r1 r2 r3 r4 r5 r6 r7 r8 r9 bS bW dB dD dF dP g
theorem Qn (w:World) {r:List Nat} (hr:r.length=16) (g:Int):(part 3 (au r g) 16).run Tryz.prog w=.ok (.int .i64 g) w:=by
 match r,hr with
 | [r0,r1,r2,r3,r4,r5,r6,r7,r8,r9,bS,bW,dB,dD,dF,dP],_=>exact RQ w r0 r1 r2 r3 r4 r5 r6 r7 r8 r9 bS bW dB dD dF dP g
theorem FI (w:World) (d:Nat) {p q:List Nat} (hp:p.length=16) (hq:q.length=16) (g h:Int):(Op.equalIn (d+1+1+1) 53 (.agg (au p g)) (.agg (au q h))).run Tryz.prog w=.ok (decide (p=q) && (g == h)) w :=
 Dt w (d+1+1) 53 _ _ RN Xi RO (by decide) (by decide) (Qm w hp g) (Qm w hq h) (Qn w hp g) (Qn w hq h) (Du w d hp hq) (run_equalIn_int (P:=Tryz.prog) w (d+1) 3 .i64 .i64 g h Ul)
def jG (p:List Nat) (g:Int) (q:List Nat) (h:Int):Bool:=decide (p=q) && (g == h)
theorem GN (w:World) {p q:List Nat} (hp:p.length=16) (hq:q.length=16) (g h:Int):(binOp .eql 53 (.agg (au p g)) (.agg (au q h))).run Tryz.prog w=.ok (.bool (jG p g q h)) w/\(binOp .neq 53 (.agg (au p g)) (.agg (au q h))).run Tryz.prog w=.ok (.bool (!jG p g q h)) w:=by
 have h1:=FI w 9997 hp hq g h
 rw[show(9997+1+1+1:Nat)=9999+1 from rfl] at h1
 exact Oo w _ _ _ h1
def og (w:World) (b o:Nat) (r:List Nat) (g:Int):Prop:=w.rangeAt b o (Bt.bP r ++ [.int .i64 g])
theorem j6 (w:World) (b o:Nat) {r:List Nat} {g:Int} (h:og w b o r g) (hs:r.length=16):(Instr.loadAt 53 (.pointer (some ⟨b,o,none⟩))).run Tryz.prog w=.ok (.agg (au r g)) w :=
 run_loadAt_mid (P:=Tryz.prog) w b o 53 (Bt.bP r ++ [Value.int .i64 g]) _ h Tryz.underlying53 rfl (by rw[wU];simp[Bt.bP,hs])
theorem og.left {w:World} {b o:Nat} {r:List Nat} {g:Int} (h:og w b o r g):w.rangeAt b o (Bt.bP r):=fun j v hv=>h j v (by
 rw[List.getElem?_append_left (List.getElem?_eq_some_iff.1 hv).1];exact hv)
theorem og.goal {w:World} {b o:Nat} {r:List Nat} {g:Int} (h:og w b o r g) (hr:r.length=16):w.cell? ⟨b,o+16,none⟩=some (.int .i64 g):=by
 have hl:(Bt.bP r).length=16:=(by simp[Bt.bP,hr])
 refine h 16 _ ?_
 rw[List.getElem?_append_right (by omega),hl]
 rfl
theorem RS (w:World) (b o:Nat) {r:List Nat} {g:Int} (h:og w b o r g) (hs:r.length=16):(Instr.loadAt 51 (.pointer (some ⟨b,o,none⟩))).run Tryz.prog w=.ok (.agg (Bt.aG r)) w :=
 run_loadAt_mid (P:=Tryz.prog) w b o 51 (Bt.bP r) _ h.left Bt.l6 rfl (by rw[Bt.qK];simp[Bt.bP,hs])
theorem rz {fn:Func} {p:Tmp} (h:fn.results=#[.cell p 53]) (tmps:Array Value) (w:World) (b:Nat) {r:List Nat} {g:Int} (hp:tmps.getD p undef=.pointer (some ⟨b,0,none⟩)) (hr:bM w b r g) (hs:r.length=16) :
 (results fn tmps).run Tryz.prog w=.ok (.agg (au r g)) w:=by
 have hp':tmps[p]?.getD undef=.pointer (some ⟨b,0,none⟩):=by simpa using hp
 simp[results,h,hp',asAddr,Ol w b hr hs,Result.andThen]
theorem Um (_w:World) (_b:Nat) (r0 r1 r2 r3 r4 r5 r6 r7 r8 r9 bS bW dB dD dF dP:Nat) (g g':Int):(au [r0,r1,r2,r3,r4,r5,r6,r7,r8,r9,bS,bW,dB,dD,dF,dP] g).setIfInBounds 16 (.int .i64 g')=au [r0,r1,r2,r3,r4,r5,r6,r7,r8,r9,bS,bW,dB,dD,dF,dP] g':=by kernel_rfl
theorem bM.Zp {w:World} {b:Nat} {r:List Nat} {g:Int} (h:bM w b r g) (hs:r.length=16) (g':Int):bM (w.setCell ⟨b,16,none⟩ (.int .i64 g')) b r g':=by
 have:=heap_setCell_same w b 16 (au r g) 53 (.int .i64 g') h
 match r,hs with
 | [r0,r1,r2,r3,r4,r5,r6,r7,r8,r9,bS,bW,dB,dD,dF,dP],_=>rw[Um w b] at this;exact this
end Go.Proofs.YtkpbpecikibohaaGreatDoor

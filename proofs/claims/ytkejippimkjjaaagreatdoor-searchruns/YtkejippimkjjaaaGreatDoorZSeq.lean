import Derived.Test.YtkejippimkjjaaaGreatDoorBG5
import Derived.Test.YtkejippimkjjaaaGreatDoorFG2
import Derived.Laws.StructEq
set_option linter.unusedSimpArgs false
set_option maxRecDepth 100000
namespace Go.Proofs.YtkejippimkjjaaaGreatDoor
open Go.RowKit Go.Shelf Go.Maps
open Fm (Nd)
open Bt.Bs (Ok wd)
def dY (p:Nat) (w w':World):Prop:=Kp (fun k=>k=p) w w'
theorem dY.trans {p:Nat} {a b c:World} (h:dY p a b) (k:dY p b c):dY p a c:=Kp.trans h k fun _ e=>Or.inl e
theorem dY.of_below {p:Nat} {a b:World} (h:Below a.heap.size a b):dY p a b:=Kp.of_below h
theorem dY.set {p:Nat} {a b:World} (h:dY p a b) (j:Nat) (x:Value):dY p a (b.setCell ⟨p,j,none⟩ x) :=
 ⟨h.os,h.tape,h.output,Nat.le_trans h.size (by simp),fun k hk hn=>(Below.heap_setCell b ⟨p,j,none⟩ x k hn).trans (h.block k hk hn)⟩
theorem jG:(Tryz.prog.info? 27).map (·.size)=some 17:=by kernel_rfl
theorem fA (r:List Nat) (g:Int):(ak r g).all (·.oneCell')=true:=by
 simp[ak,Bt.bK,Value.oneCell']
theorem Iz (w:World) (b:Nat) {r r':List Nat} {g g':Int} (h:aX w b r g) (hs:r.length=16) (hs':r'.length=16):(Instr.storeAt 27 (.pointer (some ⟨b,0,none⟩)) (.agg (ak r' g'))).run Tryz.prog w=.ok () (w.setRow b (ak r' g')):=by
 simp only[Instr.storeAt,Instr.sureAddr,Sem.run_bind,Sem.run_pure,Result.andThen]
 exact run_storeVar_row w b 27 27 (ak r g) (ak r' g') h (by rw[jG,bI hs']) (by rw[bI hs,bI hs']) (fA r' g')
theorem aX.setRow {w:World} {b:Nat} {r:List Nat} {g:Int} (h:aX w b r g) (r':List Nat) (g':Int):aX (w.setRow b (ak r' g')) b r' g':=setRow_heap w b _ _ _ _ h
theorem aX.all {w:World} {b:Nat} {r:List Nat} {g:Int} (h:aX w b r g):w.rangeAt b 0 (Bt.bK r ++ [.int .i64 g]):=fun j v hv=>by
 rw[cell_of_row w b _ _ _ _ h,Nat.zero_add]
 simp only[ak,List.getElem?_toArray]
 exact hv
theorem Lg (w:World) (b:Nat) {r:List Nat} {g:Int} (h:aX w b r g) (hs:r.length=16):(loadVar 27 ⟨b,0,none⟩).run Tryz.prog w=.ok (.agg (ak r g)) w :=
 run_loadVar_mid (P:=Tryz.prog) w b 0 27 (Bt.bK r ++ [.int .i64 g]) _ h.all Tryz.underlying27 rfl (by rw[jG];simp[Bt.bK,hs])
theorem pY {ops:Array Oper} {rest:List Oper} {o:Oper} {a:Act} {Q:Exit->Act->World->Prop} (w:World) (hg:o.guard=none) (hd:o.dst=none) (x y:Operand) (hop:o.op=Op.store 27 x y) (b:Nat) (hx:a.eval x=.pointer (some ⟨b,0,none⟩))
 {r':List Nat} {g':Int} (hy:a.eval y=.agg (ak r' g')) {r:List Nat} {g:Int} (h:aX w b r g) (hs:r.length=16) (hs':r'.length=16) (hK:wpList Tryz.prog ops Q rest a (w.setRow b (ak r' g'))):wpList Tryz.prog ops Q (o :: rest) a w:=by
 refine wpList_plain hg fun K' hK' => ?_
 have hrun:=Iz (g':=g') w b h hs hs'
 unfold Oper.wp
 simp[execOp,hop,hx,hy,hrun,Result.andThen]
 rw[Oper.upon_skip,hd]
 exact hK' _ _ hK
theorem below_setRow {w0 w:World} {b:Nat} {c:Array Value} (h:Below w0.heap.size w0 w) (hb:w0.heap.size<=b):Below w0.heap.size w0 (w.setRow b c) :=
 ⟨h.os,h.tape,h.output,by have:=h.size;simpa using this,fun k hk=>(setRow_other w b k c (by omega)).trans (h.block k hk)⟩
theorem Lh (w:World) (r0 r1 r2 r3 r4 r5 r6 r7 r8 r9 bM bP bT bY bZ dI:Nat) (g:Int):(Instr.build 27 #[(0,.agg (Bt.aD [r0,r1,r2,r3,r4,r5,r6,r7,r8,r9,bM,bP,bT,bY,bZ,dI])),(1,.int .i64 g)]).run Tryz.prog w=.ok (.agg (ak [r0,r1,r2,r3,r4,r5,r6,r7,r8,r9,bM,bP,bT,bY,bZ,dI] g)) w:=by kernel_rfl
theorem IB (w:World) {r:List Nat} (hr:r.length=16) (g:Int):(Instr.build 27 #[(0,.agg (Bt.aD r)),(1,.int .i64 g)]).run Tryz.prog w=.ok (.agg (ak r g)) w:=by
 match r,hr with
 | [r0,r1,r2,r3,r4,r5,r6,r7,r8,r9,bM,bP,bT,bY,bZ,dI],_=>exact Lh w r0 r1 r2 r3 r4 r5 r6 r7 r8 r9 bM bP bT bY bZ dI g
theorem qD:Bt.Bs.zero.length=16:=rfl
theorem eZ (w:World) (b:Nat) {r:List Nat} {g:Int} (h:aX w b r g) (hs:r.length=16):(Instr.loadAt 27 (.pointer (some ⟨b,0,none⟩))).run Tryz.prog w=.ok (.agg (ak r g)) w :=
 run_loadAt_mid (P:=Tryz.prog) w b 0 27 (Bt.bK r ++ [.int .i64 g]) _ h.all Tryz.underlying27 rfl (by rw[jG];simp[Bt.bK,hs])
theorem aJ {ops:Array Oper} {rest:List Oper} {o:Oper} {a:Act} {Q:Exit->Act->World->Prop} (w:World) (x:Operand) (hop:o.op=Op.load 27 x) (b:Nat) (hx:a.eval x=.pointer (some ⟨b,0,none⟩))
 {r:List Nat} {g:Int} (h:aX w b r g) (hs:r.length=16) (hg:Region.wanted o (yielded ops a.tmps)=true) (hK:wpList Tryz.prog ops Q rest (a.put o.dst (.agg (ak r g))) w):wpList Tryz.prog ops Q (o :: rest) a w:=by
 refine Bt.wpList_want hg fun K' hK' => ?_
 have hrun:=eZ w b h hs
 unfold Oper.wp
 simp[execOp,hop,hx,hrun,Result.andThen]
 exact hK' _ _ hK
def yP (c:Array Value):Nat->List Value->Array Value
 | _,[]=>c
 | o,v :: r=>yP (c.setIfInBounds o v) (o+1) r
theorem oq (b:Nat) (t:TypeId):∀ (vs:List Value) (o:Nat) (w:World) (c:Array Value),w.heap[b]?=some (.cells c t (0,0))->(w.setCells b o vs).heap[b]?=some (.cells (yP c o vs) t (0,0))
 | [],_,_,_,h=>h
 | v :: r,o,w,c,h=>oq b t r (o+1) (w.setCell ⟨b,o,none⟩ v) (c.setIfInBounds o v) (heap_setCell_same w b o _ _ _ h)
theorem rJ (b:Nat):∀ (vs:List Value) (o:Nat) (w:World),dY b w (w.setCells b o vs)
 | [],_,w=>Kp.refl _ w
 | v :: r,o,w=>(dY.set (Kp.refl _ w) o v).trans (rJ b r (o+1) (w.setCell ⟨b,o,none⟩ v))
theorem QF (a0 a1 a2 a3 a4 a5 a6 a7 a8 a9 IC IE a12 Ux Uy Uz r0 r1 r2 r3 r4 r5 r6 r7 r8 r9 bM bP bT bY bZ dI:Nat) (g:Int):yP (ak [a0,a1,a2,a3,a4,a5,a6,a7,a8,a9,IC,IE,a12,Ux,Uy,Uz] g) 0 (Bt.bK [r0,r1,r2,r3,r4,r5,r6,r7,r8,r9,bM,bP,bT,bY,bZ,dI])=ak [r0,r1,r2,r3,r4,r5,r6,r7,r8,r9,bM,bP,bT,bY,bZ,dI] g:=by kernel_rfl
theorem VH {r r':List Nat} (h:r.length=16) (h':r'.length=16) (g:Int):yP (ak r g) 0 (Bt.bK r')=ak r' g:=by
 match r,h with
 | [a0,a1,a2,a3,a4,a5,a6,a7,a8,a9,IC,IE,a12,Ux,Uy,Uz],_=>
  match r',h' with
  | [r0,r1,r2,r3,r4,r5,r6,r7,r8,r9,bM,bP,bT,bY,bZ,dI],_=>exact QF ..
theorem OV (w:World) (b:Nat) {r r':List Nat} {g:Int} (h:aX w b r g) (hs:r.length=16) (hs':r'.length=16):∃ w',(Instr.storeAt 25 (.pointer (some ⟨b,0,none⟩)) (.agg (Bt.aD r'))).run Tryz.prog w=.ok () w'/\aX w' b r' g/\dY b w w':=by
 refine⟨_,run_storeAt_mid (P:=Tryz.prog) w b 0 25 (Bt.aD r') ?_ ?_ ?_,?_,rJ b _ 0 w⟩
 ·intro j hj
  have hj':j<16:=by rw[Bt.jl hs'] at hj;exact hj
  refine⟨?_,h.fr _⟩
  have:=h.range j ((Bt.bK r)[j]'(by simp[Bt.bK,hs];exact hj')) (by rw[List.getElem?_eq_getElem])
  rw[this]
  rfl
 ·rw[Bt.sN,Bt.jl hs']
 ·simp[Bt.aD,Value.oneCell']
 ·have:=oq b 27 (Bt.aD r').toList 0 w _ h
  rw[show(Bt.aD r').toList=Bt.bK r' from by simp[Bt.aD,Bt.bK],VH hs hs'] at this
  exact this
theorem eG {ops:Array Oper} {rest:List Oper} {o:Oper} {a:Act} {Q:Exit->Act->World->Prop} (w:World) (hg:o.guard=none) (hd:o.dst=none) (x y:Operand) (hop:o.op=Op.store 25 x y) (b:Nat) (hx:a.eval x=.pointer (some ⟨b,0,none⟩))
 {r':List Nat} (hy:a.eval y=.agg (Bt.aD r')) {r:List Nat} {g:Int} (h:aX w b r g) (hs:r.length=16) (hs':r'.length=16) (hK:∀ w',aX w' b r' g->dY b w w'->wpList Tryz.prog ops Q rest a w'):wpList Tryz.prog ops Q (o :: rest) a w:=by
 refine wpList_plain hg fun K' hK' => ?_
 obtain⟨w',hrun,h1,h2⟩:=OV w b h hs hs'
 unfold Oper.wp
 simp[execOp,hop,hx,hy,hrun,Result.andThen]
 rw[Oper.upon_skip,hd]
 exact hK' _ _ (hK w' h1 h2)
theorem fq (w:World) (b:Nat) (c:Array Value):dY b w (w.setRow b c):=⟨rfl,rfl,rfl,by simp,fun k _ hk=>setRow_other w b k c hk⟩
theorem fI {w:World} {g b m:Nat} {cur:Array Value} {ty:TypeId} {fr:Nat × Nat} {v:Value} {t:List Nd} (h:w.heap[g]?=some (.cells cur ty fr)) (h1:ty≠91) (h2:ty≠54) (hT:Tb w b m v t):¬ Ft b m v g:=by
 rintro(rfl | rfl | e)
 ·rw[hT.tab] at h
  injection h with h
  injection h with _ h3 _
  exact h1 h3.symm
 ·obtain⟨D,⟨es,cl,hm,_⟩,_⟩:=hT.map
  rw[h] at hm;cases hm
 ·obtain⟨_,cur',hh⟩:=hT.row.lt g e
  rw[h] at hh
  injection hh with hh
  injection hh with _ h3 _
  exact h2 h3
theorem xM {fs:List Field} {a d:String} {b e:TypeId} {c f:Nat} (h:fs.map (fun f=>(f.name,f.type,f.offset))=[(a,b,c),(d,e,f)]) :
 ∃ f1 f2,fs=[f1,f2]/\(f1.name=a/\f1.type=b/\f1.offset=c)/\f2.name=d/\f2.type=e/\f2.offset=f:=by
 match fs,h with
 | [f1,f2],h=>
  simp only[List.map_cons,List.map_nil,List.cons.injEq,Prod.mk.injEq,and_true] at h
  exact⟨f1,f2,rfl,h.1,h.2⟩
theorem Bc {P:Program} (w:World) (d:Nat) (t:TypeId) (xs ys:Array Value) (ht:P.underlying t=some (.struct (P.fieldsOf t))) (hp:P.stoodInHeld t=false) {n1 n2:String} {t1 t2:TypeId} {o1 o2:Nat}
 (hf : (P.fieldsOf t).toList.map (fun f => (f.name, f.type, f.offset)) = [(n1, t1, o1), (n2, t2, o2)]) (m1 : n1 ≠ "_") (m2 : n2 ≠ "_") {a1 b1 a2 b2 : Value}
 (h1:(part t1 xs o1).run P w=.ok a1 w) (h1':(part t1 ys o1).run P w=.ok b1 w) (h2:(part t2 xs o2).run P w=.ok a2 w) (h2':(part t2 ys o2).run P w=.ok b2 w) {p q:Bool}
 (e1:(Op.equalIn d t1 a1 b1).run P w=.ok p w) (e2:(Op.equalIn d t2 a2 b2).run P w=.ok q w):(Op.equalIn (d+1) t (.agg xs) (.agg ys)).run P w=.ok (p && q) w:=by
 obtain⟨f1,f2,hfs,⟨rfl,rfl,rfl⟩,rfl,rfl,rfl⟩:=xM hf
 rw[run_equalIn_struct w d t xs ys ht hp,hfs,Op.eqFields,if_pos m1]
 simp only[Sem.run_bind,h1,h1',e1,Result.andThen_ok]
 cases p
 ·simp
 ·simp only[Bool.not_true,Bool.false_eq_true,if_false,Bool.true_and]
  rw[Op.eqFields,if_pos m2]
  simp only[Sem.run_bind,h2,h2',e2,Result.andThen_ok]
  cases q <;> simp[Op.eqFields]
theorem Li {P:Program} (w:World) (t:TypeId) (xs ys:Array Value) {q:Bool} (h:(Op.equalIn (9999+1) t (.agg xs) (.agg ys)).run P w=.ok q w):(binOp .eql t (.agg xs) (.agg ys)).run P w=.ok (.bool q) w/\(binOp .neq t (.agg xs) (.agg ys)).run P w=.ok (.bool (!q)) w:=by
 rw[run_eql_struct,run_neq_struct,show(10000:Nat)=9999+1 from rfl,h]
 exact⟨rfl,rfl⟩
theorem Lj {p q:List Nat} (hp:p.length=16) (hq:q.length=16):((List.range 16).all fun i=>wd p i == wd q i)=decide (p=q):=by
 rw[Bool.eq_iff_iff,decide_eq_true_iff,List.all_eq_true]
 constructor
 ·intro h
  exact Bt.Bs.Ie hp hq fun i hi=>by simpa using h i (List.mem_range.2 hi)
 ·rintro rfl i _
  simp
theorem Bd (w:World) (d:Nat) {p q:List Nat} (hp:p.length=16) (hq:q.length=16):(Op.equalIn (d+1+1) 25 (.agg (Bt.aD p)) (.agg (Bt.aD q))).run Tryz.prog w=.ok (decide (p=q)) w:=by
 obtain⟨i0,hi0⟩:∃ i0,Tryz.prog.info? 23=some i0:=by
  cases h:Tryz.prog.info? 23 with
  | none=>have:=Bt.vI;simp[Program.cellsOf,h] at this
  | some i=>exact⟨i,rfl⟩
 rw[run_equalIn_array w (d+1) (Bt.aD p) (Bt.aD q) Bt.lZ hi0,Bt.vI,Bt.uh w d hp hq _ (fun i hi=>List.mem_range.1 hi),Lj hp hq]
theorem OW:Tryz.prog.underlying 27=some (.struct (Tryz.prog.fieldsOf 27)):=by kernel_rfl
theorem Ue:Tryz.prog.stoodInHeld 27=false:=by kernel_rfl
theorem OX : (Tryz.prog.fieldsOf 27).toList.map (fun f => (f.name, f.type, f.offset)) = [("Left", 25, 0), ("Goal", 3, 16)] := by kernel_rfl
theorem QG:Tryz.prog.underlying 3=some (.int .i64):=by kernel_rfl
theorem OY (w:World) (r0 r1 r2 r3 r4 r5 r6 r7 r8 r9 bM bP bT bY bZ dI:Nat) (g:Int):(part 25 (ak [r0,r1,r2,r3,r4,r5,r6,r7,r8,r9,bM,bP,bT,bY,bZ,dI] g) 0).run Tryz.prog w=.ok (.agg (Bt.aD [r0,r1,r2,r3,r4,r5,r6,r7,r8,r9,bM,bP,bT,bY,bZ,dI])) w:=by kernel_rfl
theorem OZ (w:World) (r0 r1 r2 r3 r4 r5 r6 r7 r8 r9 bM bP bT bY bZ dI:Nat) (g:Int):(part 3 (ak [r0,r1,r2,r3,r4,r5,r6,r7,r8,r9,bM,bP,bT,bY,bZ,dI] g) 16).run Tryz.prog w=.ok (.int .i64 g) w:=by kernel_rfl
theorem NG (w:World) {r:List Nat} (hr:r.length=16) (g:Int):(part 25 (ak r g) 0).run Tryz.prog w=.ok (.agg (Bt.aD r)) w:=by
 match r,hr with
 | [r0,r1,r2,r3,r4,r5,r6,r7,r8,r9,bM,bP,bT,bY,bZ,dI],_=>exact OY w r0 r1 r2 r3 r4 r5 r6 r7 r8 r9 bM bP bT bY bZ dI g
theorem NH (w:World) {r:List Nat} (hr:r.length=16) (g:Int):(part 3 (ak r g) 16).run Tryz.prog w=.ok (.int .i64 g) w:=by
 match r,hr with
 | [r0,r1,r2,r3,r4,r5,r6,r7,r8,r9,bM,bP,bT,bY,bZ,dI],_=>exact OZ w r0 r1 r2 r3 r4 r5 r6 r7 r8 r9 bM bP bT bY bZ dI g
theorem DT (w:World) (d:Nat) {p q:List Nat} (hp:p.length=16) (hq:q.length=16) (g h:Int):(Op.equalIn (d+1+1+1) 27 (.agg (ak p g)) (.agg (ak q h))).run Tryz.prog w=.ok (decide (p=q) && (g == h)) w :=
 Bc w (d+1+1) 27 _ _ OW Ue OX (by decide) (by decide) (NG w hp g) (NG w hq h) (NH w hp g) (NH w hq h) (Bd w d hp hq) (run_equalIn_int (P:=Tryz.prog) w (d+1) 3 .i64 .i64 g h QG)
def gD (p:List Nat) (g:Int) (q:List Nat) (h:Int):Bool:=decide (p=q) && (g == h)
theorem vN (w:World) {p q:List Nat} (hp:p.length=16) (hq:q.length=16) (g h:Int):(binOp .eql 27 (.agg (ak p g)) (.agg (ak q h))).run Tryz.prog w=.ok (.bool (gD p g q h)) w/\(binOp .neq 27 (.agg (ak p g)) (.agg (ak q h))).run Tryz.prog w=.ok (.bool (!gD p g q h)) w:=by
 have h1:=DT w 9997 hp hq g h
 rw[show(9997+1+1+1:Nat)=9999+1 from rfl] at h1
 exact Li w _ _ _ h1
theorem QH:Tryz.prog.eqGuardType Tryz.prog.depth 27=false:=by kernel_rfl
theorem FX {ops:Array Oper} {rest:List Oper} {o:Oper} {a:Act} {Q:Exit->Act->World->Prop} (w:World) (x y:Operand) (t:TypeId) (hop:o.op=Op.binOp .neq 27 x y t)
 {p q:List Nat} {g h:Int} (hx:a.eval x=.agg (ak p g)) (hy:a.eval y=.agg (ak q h)) (hp:p.length=16) (hq:q.length=16) (hg:Region.wanted o (yielded ops a.tmps)=true) (hK:wpList Tryz.prog ops Q rest (a.put o.dst (.bool (!gD p g q h))) w):wpList Tryz.prog ops Q (o :: rest) a w:=by
 refine Bt.wpList_want hg fun K' hK' => ?_
 have hrun:=(vN w hp hq g h).2
 unfold Oper.wp
 simp only[execOp,hop,hx,hy]
 simp[eqGuard,hrun,Result.andThen]
 exact hK' _ _ hK
def iY (w:World) (b o:Nat) (r:List Nat) (g:Int):Prop:=w.rangeAt b o (Bt.bK r ++ [.int .i64 g])
theorem aX.dL {w:World} {b:Nat} {r:List Nat} {g:Int} (h:aX w b r g):iY w b 0 r g:=h.all
theorem jM (w:World) (b o:Nat) {r:List Nat} {g:Int} (h:iY w b o r g) (hs:r.length=16):(Instr.loadAt 27 (.pointer (some ⟨b,o,none⟩))).run Tryz.prog w=.ok (.agg (ak r g)) w :=
 run_loadAt_mid (P:=Tryz.prog) w b o 27 (Bt.bK r ++ [Value.int .i64 g]) _ h Tryz.underlying27 rfl (by rw[jG];simp[Bt.bK,hs])
theorem iY.left {w:World} {b o:Nat} {r:List Nat} {g:Int} (h:iY w b o r g):w.rangeAt b o (Bt.bK r):=fun j v hv=>h j v (by
 rw[List.getElem?_append_left (List.getElem?_eq_some_iff.1 hv).1];exact hv)
theorem iY.goal {w:World} {b o:Nat} {r:List Nat} {g:Int} (h:iY w b o r g) (hr:r.length=16):w.cell? ⟨b,o+16,none⟩=some (.int .i64 g):=by
 have hl:(Bt.bK r).length=16:=(by simp[Bt.bK,hr])
 refine h 16 _ ?_
 rw[List.getElem?_append_right (by omega),hl]
 rfl
theorem En (w:World) (b o:Nat) {r:List Nat} {g:Int} (h:iY w b o r g) (hs:r.length=16):(Instr.loadAt 25 (.pointer (some ⟨b,o,none⟩))).run Tryz.prog w=.ok (.agg (Bt.aD r)) w :=
 run_loadAt_mid (P:=Tryz.prog) w b o 25 (Bt.bK r) _ h.left Bt.lZ rfl (by rw[Bt.sN];simp[Bt.bK,hs])
theorem lU {fn:Func} {p:Tmp} (h:fn.results=#[.cell p 27]) (tmps:Array Value) (w:World) (b:Nat) {r:List Nat} {g:Int} (hp:tmps.getD p undef=.pointer (some ⟨b,0,none⟩)) (hr:aX w b r g) (hs:r.length=16) :
 (results fn tmps).run Tryz.prog w=.ok (.agg (ak r g)) w:=by
 have hp':tmps[p]?.getD undef=.pointer (some ⟨b,0,none⟩):=by simpa using hp
 simp[results,h,hp',asAddr,Lg w b hr hs,Result.andThen]
theorem QI (_w:World) (_b:Nat) (r0 r1 r2 r3 r4 r5 r6 r7 r8 r9 bM bP bT bY bZ dI:Nat) (g g':Int):(ak [r0,r1,r2,r3,r4,r5,r6,r7,r8,r9,bM,bP,bT,bY,bZ,dI] g).setIfInBounds 16 (.int .i64 g')=ak [r0,r1,r2,r3,r4,r5,r6,r7,r8,r9,bM,bP,bT,bY,bZ,dI] g':=by kernel_rfl
theorem aX.QJ {w:World} {b:Nat} {r:List Nat} {g:Int} (h:aX w b r g) (hs:r.length=16) (g':Int):aX (w.setCell ⟨b,16,none⟩ (.int .i64 g')) b r g':=by
 have:=heap_setCell_same w b 16 (ak r g) 27 (.int .i64 g') h
 match r,hs with
 | [r0,r1,r2,r3,r4,r5,r6,r7,r8,r9,bM,bP,bT,bY,bZ,dI],_=>rw[QI w b] at this;exact this
end Go.Proofs.YtkejippimkjjaaaGreatDoor

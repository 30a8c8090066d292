/-
  Two sequents compared whole: they are the same just if their left sides and their goals are. No condition.
-/
import Derived.Test.YtkmmlimekachbaaGreatDoorQG5
import Derived.Laws.StructEq
namespace Go.Proofs.YtkmmlimekachbaaGreatDoor
open Go.RowKit Go.Shelf Go.Maps
open Bt.Bs (Ok wd)
theorem fields_two {fs:List Field} {a d:String} {b e:TypeId} {c f:Nat} (h:fs.map (fun f=>(f.name,f.type,f.offset))=[(a,b,c),(d,e,f)]) :
 ∃ f1 f2,fs=[f1,f2]∧(f1.name=a∧f1.type=b∧f1.offset=c)∧f2.name=d∧f2.type=e∧f2.offset=f:=by
 match fs,h with
 | [f1,f2],h =>
  simp only [List.map_cons,List.map_nil,List.cons.injEq,Prod.mk.injEq,and_true] at h
  exact ⟨f1,f2,rfl,h.1,h.2⟩
theorem equalIn_pair {P:Program} (w:World) (d:Nat) (t:TypeId) (xs ys:Array Value) (ht:P.underlying t=some (.struct (P.fieldsOf t))) (hp:P.stoodInHeld t=false) {n1 n2:String} {t1 t2:TypeId} {o1 o2:Nat}
 (hf : (P.fieldsOf t).toList.map (fun f => (f.name, f.type, f.offset)) = [(n1, t1, o1), (n2, t2, o2)]) (m1 : n1 ≠ "_") (m2 : n2 ≠ "_") {a1 b1 a2 b2 : Value}
 (h1:(part t1 xs o1).run P w=.ok a1 w) (h1':(part t1 ys o1).run P w=.ok b1 w) (h2:(part t2 xs o2).run P w=.ok a2 w) (h2':(part t2 ys o2).run P w=.ok b2 w) {p q:Bool}
 (e1:(Op.equalIn d t1 a1 b1).run P w=.ok p w) (e2:(Op.equalIn d t2 a2 b2).run P w=.ok q w):(Op.equalIn (d+1) t (.agg xs) (.agg ys)).run P w=.ok (p && q) w:=by
 obtain ⟨f1,f2,hfs,⟨rfl,rfl,rfl⟩,rfl,rfl,rfl⟩:=fields_two hf
 rw [run_equalIn_struct w d t xs ys ht hp,hfs,Op.eqFields,if_pos m1]
 simp only [Sem.run_bind,h1,h1',e1,Result.andThen_ok]
 cases p
 ·simp
 ·simp only [Bool.not_true,Bool.false_eq_true,if_false,Bool.true_and]
  rw [Op.eqFields,if_pos m2]
  simp only [Sem.run_bind,h2,h2',e2,Result.andThen_ok]
  cases q <;> simp [Op.eqFields]
theorem eql_pair {P:Program} (w:World) (t:TypeId) (xs ys:Array Value) {q:Bool} (h:(Op.equalIn (9999+1) t (.agg xs) (.agg ys)).run P w=.ok q w):(binOp .eql t (.agg xs) (.agg ys)).run P w=.ok (.bool q) w∧(binOp .neq t (.agg xs) (.agg ys)).run P w=.ok (.bool (!q)) w:=by
 rw [run_eql_struct,run_neq_struct,show (10000:Nat)=9999+1 from rfl,h]
 exact ⟨rfl,rfl⟩
set_option maxRecDepth 100000 in
theorem all_bits {p q:List Nat} (hp:p.length=16) (hq:q.length=16):((List.range 16).all fun i=>wd p i == wd q i)=decide (p=q):=by
 rw [Bool.eq_iff_iff,decide_eq_true_iff,List.all_eq_true]
 constructor
 ·intro h
  exact Bt.Bs.ext_wd hp hq fun i hi=>by simpa using h i (List.mem_range.2 hi)
 ·rintro rfl i _
  simp
theorem equalIn_bits (w:World) (d:Nat) {p q:List Nat} (hp:p.length=16) (hq:q.length=16):(Op.equalIn (d+1+1) 25 (.agg (Bt.cellsB p)) (.agg (Bt.cellsB q))).run Tryz.prog w=.ok (decide (p=q)) w:=by
 obtain ⟨i0,hi0⟩:∃ i0,Tryz.prog.info? 23=some i0:=by
  cases h:Tryz.prog.info? 23 with
  | none=>have:=Bt.cells23;simp [Program.cellsOf,h] at this
  | some i=>exact ⟨i,rfl⟩
 rw [run_equalIn_array w (d+1) (Bt.cellsB p) (Bt.cellsB q) Bt.under25 hi0,Bt.cells23,Bt.eqItems_bits w d hp hq _ (fun i hi=>List.mem_range.1 hi),all_bits hp hq]
theorem structQ:Tryz.prog.underlying 27=some (.struct (Tryz.prog.fieldsOf 27)):=by kernel_rfl
theorem heldQ:Tryz.prog.stoodInHeld 27=false:=by kernel_rfl
theorem fieldsQ : (Tryz.prog.fieldsOf 27).toList.map (fun f => (f.name, f.type, f.offset)) = [("Left", 25, 0), ("Goal", 3, 16)] := by kernel_rfl
theorem underI:Tryz.prog.underlying 3=some (.int .i64):=by kernel_rfl
theorem partL16 (w:World) (r0 r1 r2 r3 r4 r5 r6 r7 r8 r9 r10 r11 r12 r13 r14 r15:Nat) (g:Int):(part 25 (cellsQ [r0,r1,r2,r3,r4,r5,r6,r7,r8,r9,r10,r11,r12,r13,r14,r15] g) 0).run Tryz.prog w=.ok (.agg (Bt.cellsB [r0,r1,r2,r3,r4,r5,r6,r7,r8,r9,r10,r11,r12,r13,r14,r15])) w:=by kernel_rfl
theorem partG16 (w:World) (r0 r1 r2 r3 r4 r5 r6 r7 r8 r9 r10 r11 r12 r13 r14 r15:Nat) (g:Int):(part 3 (cellsQ [r0,r1,r2,r3,r4,r5,r6,r7,r8,r9,r10,r11,r12,r13,r14,r15] g) 16).run Tryz.prog w=.ok (.int .i64 g) w:=by kernel_rfl
theorem partL (w:World) {r:List Nat} (hr:r.length=16) (g:Int):(part 25 (cellsQ r g) 0).run Tryz.prog w=.ok (.agg (Bt.cellsB r)) w:=by
 match r,hr with
 | [r0,r1,r2,r3,r4,r5,r6,r7,r8,r9,r10,r11,r12,r13,r14,r15],_=>exact partL16 w r0 r1 r2 r3 r4 r5 r6 r7 r8 r9 r10 r11 r12 r13 r14 r15 g
theorem partG (w:World) {r:List Nat} (hr:r.length=16) (g:Int):(part 3 (cellsQ r g) 16).run Tryz.prog w=.ok (.int .i64 g) w:=by
 match r,hr with
 | [r0,r1,r2,r3,r4,r5,r6,r7,r8,r9,r10,r11,r12,r13,r14,r15],_=>exact partG16 w r0 r1 r2 r3 r4 r5 r6 r7 r8 r9 r10 r11 r12 r13 r14 r15 g
theorem equalIn_seq (w:World) (d:Nat) {p q:List Nat} (hp:p.length=16) (hq:q.length=16) (g h:Int):(Op.equalIn (d+1+1+1) 27 (.agg (cellsQ p g)) (.agg (cellsQ q h))).run Tryz.prog w=.ok (decide (p=q) && (g == h)) w :=
 equalIn_pair w (d+1+1) 27 _ _ structQ heldQ fieldsQ (by decide) (by decide) (partL w hp g) (partL w hq h) (partG w hp g) (partG w hq h) (equalIn_bits w d hp hq) (run_equalIn_int (P:=Tryz.prog) w (d+1) 3 .i64 .i64 g h underI)
def sameQ (p:List Nat) (g:Int) (q:List Nat) (h:Int):Bool:=decide (p=q) && (g == h)
theorem sameQ_self (p:List Nat) (g:Int):sameQ p g p g=true:=by simp [sameQ]
theorem eql_seq (w:World) {p q:List Nat} (hp:p.length=16) (hq:q.length=16) (g h:Int):(binOp .eql 27 (.agg (cellsQ p g)) (.agg (cellsQ q h))).run Tryz.prog w=.ok (.bool (sameQ p g q h)) w∧(binOp .neq 27 (.agg (cellsQ p g)) (.agg (cellsQ q h))).run Tryz.prog w=.ok (.bool (!sameQ p g q h)) w:=by
 have h1:=equalIn_seq w 9997 hp hq g h
 rw [show (9997+1+1+1:Nat)=9999+1 from rfl] at h1
 exact eql_pair w _ _ _ h1
theorem wpList_eqQ {ops:Array Oper} {rest:List Oper} {o:Oper} {a:Act} {Q:Exit→Act→World→Prop} (w:World) (x y:Operand) (t:TypeId) (hop:o.op=Op.binOp .eql 27 x y t)
 {p q:List Nat} {g h:Int} (hx:a.eval x=.agg (cellsQ p g)) (hy:a.eval y=.agg (cellsQ q h)) (hp:p.length=16) (hq:q.length=16) (hg:Region.wanted o (yielded ops a.tmps)=true) (hK:wpList Tryz.prog ops Q rest (a.put o.dst (.bool (sameQ p g q h))) w):wpList Tryz.prog ops Q (o :: rest) a w:=by
 refine Bt.wpList_want hg fun K' hK' => ?_
 have hrun:=(eql_seq w hp hq g h).1
 unfold Oper.wp
 simp only [execOp,hop,hx,hy]
 simp [eqGuard,hrun,Result.andThen]
 exact hK' _ _ hK
theorem guardQ:Tryz.prog.eqGuardType Tryz.prog.depth 27=false:=by kernel_rfl
theorem wpList_neQ {ops:Array Oper} {rest:List Oper} {o:Oper} {a:Act} {Q:Exit→Act→World→Prop} (w:World) (x y:Operand) (t:TypeId) (hop:o.op=Op.binOp .neq 27 x y t)
 {p q:List Nat} {g h:Int} (hx:a.eval x=.agg (cellsQ p g)) (hy:a.eval y=.agg (cellsQ q h)) (hp:p.length=16) (hq:q.length=16) (hg:Region.wanted o (yielded ops a.tmps)=true) (hK:wpList Tryz.prog ops Q rest (a.put o.dst (.bool (!sameQ p g q h))) w):wpList Tryz.prog ops Q (o :: rest) a w:=by
 refine Bt.wpList_want hg fun K' hK' => ?_
 have hrun:=(eql_seq w hp hq g h).2
 unfold Oper.wp
 simp only [execOp,hop,hx,hy]
 simp [eqGuard,hrun,Result.andThen]
 exact hK' _ _ hK
end Go.Proofs.YtkmmlimekachbaaGreatDoor

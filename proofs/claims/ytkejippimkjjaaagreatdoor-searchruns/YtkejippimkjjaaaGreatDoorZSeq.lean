/-
  Sequents loaded, stored, compared whole, also within a greater block. No condition. (Written by genzseq.py.)
-/
import Derived.Test.YtkejippimkjjaaaGreatDoorBG5
import Derived.Test.YtkejippimkjjaaaGreatDoorFG2
import Derived.Laws.StructEq
namespace Go.Proofs.YtkejippimkjjaaaGreatDoor
open Go.RowKit Go.Shelf Go.Maps
open Fm (Nd)
open Bt.Bs (Ok wd)
set_option linter.unusedSimpArgs false

def KpP (p : Nat) (w w' : World) : Prop := Kp (fun k => k = p) w w'
theorem KpP.trans {p : Nat} {a b c : World} (h : KpP p a b) (k : KpP p b c) : KpP p a c := Kp.trans h k fun _ e => Or.inl e
theorem KpP.of_below {p : Nat} {a b : World} (h : Below a.heap.size a b) : KpP p a b := Kp.of_below h
theorem KpP.set {p : Nat} {a b : World} (h : KpP p a b) (j : Nat) (x : Value) : KpP p a (b.setCell ⟨p, j, none⟩ x) :=
  ⟨h.os, h.tape, h.output, Nat.le_trans h.size (by simp), fun k hk hn => (Below.heap_setCell b ⟨p, j, none⟩ x k hn).trans (h.block k hk hn)⟩
theorem sizeQ : (Tryz.prog.info? 27).map (·.size) = some 17 := by kernel_rfl
theorem zeroQ : (Tryz.prog.info? 27).map (fun i => (i.zero, i.size)) = some (some (.agg (cellsQ Bt.Bs.zero 0)), 17) := by kernel_rfl
theorem cellsQ_one (r : List Nat) (g : Int) : (cellsQ r g).all (·.oneCell') = true := by
  simp [cellsQ, Bt.listB, Value.oneCell']
theorem storeQ (w : World) (b : Nat) {r r' : List Nat} {g g' : Int} (h : SeqAt w b r g) (hs : r.length = 16) (hs' : r'.length = 16) : (Instr.storeAt 27 (.pointer (some ⟨b, 0, none⟩)) (.agg (cellsQ r' g'))).run Tryz.prog w = .ok () (w.setRow b (cellsQ r' g')) := by
  simp only [Instr.storeAt, Instr.sureAddr, Sem.run_bind, Sem.run_pure, Result.andThen]
  exact run_storeVar_row w b 27 27 (cellsQ r g) (cellsQ r' g') h (by rw [sizeQ, cellsQ_size hs']) (by rw [cellsQ_size hs, cellsQ_size hs']) (cellsQ_one r' g')
theorem SeqAt.setRow {w : World} {b : Nat} {r : List Nat} {g : Int} (h : SeqAt w b r g) (r' : List Nat) (g' : Int) : SeqAt (w.setRow b (cellsQ r' g')) b r' g' := setRow_heap w b _ _ _ _ h
theorem SeqAt.all {w : World} {b : Nat} {r : List Nat} {g : Int} (h : SeqAt w b r g) : w.rangeAt b 0 (Bt.listB r ++ [.int .i64 g]) := fun j v hv => by
  rw [cell_of_row w b _ _ _ _ h, Nat.zero_add]
  simp only [cellsQ, List.getElem?_toArray]
  exact hv
theorem loadVarQ (w : World) (b : Nat) {r : List Nat} {g : Int} (h : SeqAt w b r g) (hs : r.length = 16) : (loadVar 27 ⟨b, 0, none⟩).run Tryz.prog w = .ok (.agg (cellsQ r g)) w :=
  run_loadVar_mid (P := Tryz.prog) w b 0 27 (Bt.listB r ++ [.int .i64 g]) _ h.all Tryz.underlying27 rfl (by rw [sizeQ]; simp [Bt.listB, hs])
theorem wpList_stQ {ops : Array Oper} {rest : List Oper} {o : Oper} {a : Act} {Q : Exit → Act → World → Prop} (w : World) (hg : o.guard = none) (hd : o.dst = none) (x y : Operand) (hop : o.op = Op.store 27 x y) (b : Nat) (hx : a.eval x = .pointer (some ⟨b, 0, none⟩))
    {r' : List Nat} {g' : Int} (hy : a.eval y = .agg (cellsQ r' g')) {r : List Nat} {g : Int} (h : SeqAt w b r g) (hs : r.length = 16) (hs' : r'.length = 16) (hK : wpList Tryz.prog ops Q rest a (w.setRow b (cellsQ r' g'))) : wpList Tryz.prog ops Q (o :: rest) a w := by
  refine wpList_plain hg fun K' hK' => ?_
  have hrun := storeQ (g' := g') w b h hs hs'
  unfold Oper.wp
  simp [execOp, hop, hx, hy, hrun, Result.andThen]
  rw [Oper.upon_skip, hd]
  exact hK' _ _ hK
theorem below_setRow {w0 w : World} {b : Nat} {c : Array Value} (h : Below w0.heap.size w0 w) (hb : w0.heap.size ≤ b) : Below w0.heap.size w0 (w.setRow b c) :=
  ⟨h.os, h.tape, h.output, by have := h.size; simpa using this, fun k hk => (setRow_other w b k c (by omega)).trans (h.block k hk)⟩
theorem buildQ16 (w : World) (r0 r1 r2 r3 r4 r5 r6 r7 r8 r9 r10 r11 r12 r13 r14 r15 : Nat) (g : Int) : (Instr.build 27 #[(0, .agg (Bt.cellsB [r0, r1, r2, r3, r4, r5, r6, r7, r8, r9, r10, r11, r12, r13, r14, r15])), (1, .int .i64 g)]).run Tryz.prog w = .ok (.agg (cellsQ [r0, r1, r2, r3, r4, r5, r6, r7, r8, r9, r10, r11, r12, r13, r14, r15] g)) w := by kernel_rfl
theorem buildQ (w : World) {r : List Nat} (hr : r.length = 16) (g : Int) : (Instr.build 27 #[(0, .agg (Bt.cellsB r)), (1, .int .i64 g)]).run Tryz.prog w = .ok (.agg (cellsQ r g)) w := by
  match r, hr with
  | [r0, r1, r2, r3, r4, r5, r6, r7, r8, r9, r10, r11, r12, r13, r14, r15], _ => exact buildQ16 w r0 r1 r2 r3 r4 r5 r6 r7 r8 r9 r10 r11 r12 r13 r14 r15 g
theorem wpList_buildQ {ops : Array Oper} {rest : List Oper} {o : Oper} {a : Act} {Q : Exit → Act → World → Prop} (w : World) (hg : o.guard = none) (x y : Operand) (hop : o.op = Op.build 27 #[(0, x), (1, y)]) {r : List Nat} {g : Int} (hx : a.eval x = .agg (Bt.cellsB r)) (hy : a.eval y = .int .i64 g) (hr : r.length = 16)
    (hK : wpList Tryz.prog ops Q rest (a.put o.dst (.agg (cellsQ r g))) w) : wpList Tryz.prog ops Q (o :: rest) a w := by
  refine wpList_plain hg fun K' hK' => ?_
  have hrun := buildQ w hr g
  unfold Oper.wp
  simp [execOp, hop, hx, hy, hrun, Result.andThen]
  exact hK' _ _ hK
theorem zero_len : Bt.Bs.zero.length = 16 := rfl
theorem loadQQ (w : World) (b : Nat) {r : List Nat} {g : Int} (h : SeqAt w b r g) (hs : r.length = 16) : (Instr.loadAt 27 (.pointer (some ⟨b, 0, none⟩))).run Tryz.prog w = .ok (.agg (cellsQ r g)) w :=
  run_loadAt_mid (P := Tryz.prog) w b 0 27 (Bt.listB r ++ [.int .i64 g]) _ h.all Tryz.underlying27 rfl (by rw [sizeQ]; simp [Bt.listB, hs])
theorem wpList_ldQQ {ops : Array Oper} {rest : List Oper} {o : Oper} {a : Act} {Q : Exit → Act → World → Prop} (w : World) (x : Operand) (hop : o.op = Op.load 27 x) (b : Nat) (hx : a.eval x = .pointer (some ⟨b, 0, none⟩))
    {r : List Nat} {g : Int} (h : SeqAt w b r g) (hs : r.length = 16) (hg : Region.wanted o (yielded ops a.tmps) = true) (hK : wpList Tryz.prog ops Q rest (a.put o.dst (.agg (cellsQ r g))) w) : wpList Tryz.prog ops Q (o :: rest) a w := by
  refine Bt.wpList_want hg fun K' hK' => ?_
  have hrun := loadQQ w b h hs
  unfold Oper.wp
  simp [execOp, hop, hx, hrun, Result.andThen]
  exact hK' _ _ hK
def updC (c : Array Value) : Nat → List Value → Array Value
  | _, [] => c
  | o, v :: r => updC (c.setIfInBounds o v) (o + 1) r
theorem setCells_block (b : Nat) (t : TypeId) : ∀ (vs : List Value) (o : Nat) (w : World) (c : Array Value), w.heap[b]? = some (.cells c t (0, 0)) → (w.setCells b o vs).heap[b]? = some (.cells (updC c o vs) t (0, 0))
  | [], _, _, _, h => h
  | v :: r, o, w, c, h => setCells_block b t r (o + 1) (w.setCell ⟨b, o, none⟩ v) (c.setIfInBounds o v) (heap_setCell_same w b o _ _ _ h)
theorem setCells_kp (b : Nat) : ∀ (vs : List Value) (o : Nat) (w : World), KpP b w (w.setCells b o vs)
  | [], _, w => Kp.refl _ w
  | v :: r, o, w => (KpP.set (Kp.refl _ w) o v).trans (setCells_kp b r (o + 1) (w.setCell ⟨b, o, none⟩ v))
theorem updQ16 (a0 a1 a2 a3 a4 a5 a6 a7 a8 a9 a10 a11 a12 a13 a14 a15 r0 r1 r2 r3 r4 r5 r6 r7 r8 r9 r10 r11 r12 r13 r14 r15 : Nat) (g : Int) : updC (cellsQ [a0, a1, a2, a3, a4, a5, a6, a7, a8, a9, a10, a11, a12, a13, a14, a15] g) 0 (Bt.listB [r0, r1, r2, r3, r4, r5, r6, r7, r8, r9, r10, r11, r12, r13, r14, r15]) = cellsQ [r0, r1, r2, r3, r4, r5, r6, r7, r8, r9, r10, r11, r12, r13, r14, r15] g := by kernel_rfl
theorem updQ {r r' : List Nat} (h : r.length = 16) (h' : r'.length = 16) (g : Int) : updC (cellsQ r g) 0 (Bt.listB r') = cellsQ r' g := by
  match r, h with
  | [a0, a1, a2, a3, a4, a5, a6, a7, a8, a9, a10, a11, a12, a13, a14, a15], _ =>
    match r', h' with
    | [r0, r1, r2, r3, r4, r5, r6, r7, r8, r9, r10, r11, r12, r13, r14, r15], _ => exact updQ16 ..
theorem storeBQ (w : World) (b : Nat) {r r' : List Nat} {g : Int} (h : SeqAt w b r g) (hs : r.length = 16) (hs' : r'.length = 16) : ∃ w', (Instr.storeAt 25 (.pointer (some ⟨b, 0, none⟩)) (.agg (Bt.cellsB r'))).run Tryz.prog w = .ok () w' ∧ SeqAt w' b r' g ∧ KpP b w w' := by
  refine ⟨_, run_storeAt_mid (P := Tryz.prog) w b 0 25 (Bt.cellsB r') ?_ ?_ ?_, ?_, setCells_kp b _ 0 w⟩
  · intro j hj
    have hj' : j < 16 := by rw [Bt.cellsB_size hs'] at hj; exact hj
    refine ⟨?_, h.fr _⟩
    have := h.range j ((Bt.listB r)[j]'(by simp [Bt.listB, hs]; exact hj')) (by rw [List.getElem?_eq_getElem])
    rw [this]
    rfl
  · rw [Bt.sizeB, Bt.cellsB_size hs']
  · simp [Bt.cellsB, Value.oneCell']
  · have := setCells_block b 27 (Bt.cellsB r').toList 0 w _ h
    rw [show (Bt.cellsB r').toList = Bt.listB r' from by simp [Bt.cellsB, Bt.listB], updQ hs hs'] at this
    exact this
theorem wpList_stBQ {ops : Array Oper} {rest : List Oper} {o : Oper} {a : Act} {Q : Exit → Act → World → Prop} (w : World) (hg : o.guard = none) (hd : o.dst = none) (x y : Operand) (hop : o.op = Op.store 25 x y) (b : Nat) (hx : a.eval x = .pointer (some ⟨b, 0, none⟩))
    {r' : List Nat} (hy : a.eval y = .agg (Bt.cellsB r')) {r : List Nat} {g : Int} (h : SeqAt w b r g) (hs : r.length = 16) (hs' : r'.length = 16) (hK : ∀ w', SeqAt w' b r' g → KpP b w w' → wpList Tryz.prog ops Q rest a w') : wpList Tryz.prog ops Q (o :: rest) a w := by
  refine wpList_plain hg fun K' hK' => ?_
  obtain ⟨w', hrun, h1, h2⟩ := storeBQ w b h hs hs'
  unfold Oper.wp
  simp [execOp, hop, hx, hy, hrun, Result.andThen]
  rw [Oper.upon_skip, hd]
  exact hK' _ _ (hK w' h1 h2)
theorem setRow_kp (w : World) (b : Nat) (c : Array Value) : KpP b w (w.setRow b c) := ⟨rfl, rfl, rfl, by simp, fun k _ hk => setRow_other w b k c hk⟩
theorem cells_nft {w : World} {g b m : Nat} {cur : Array Value} {ty : TypeId} {fr : Nat × Nat} {v : Value} {t : List Nd} (h : w.heap[g]? = some (.cells cur ty fr)) (h1 : ty ≠ 91) (h2 : ty ≠ 54) (hT : Tb w b m v t) : ¬ Ft b m v g := by
  rintro (rfl | rfl | e)
  · rw [hT.tab] at h
    injection h with h
    injection h with _ h3 _
    exact h1 h3.symm
  · obtain ⟨D, ⟨es, cl, hm, _⟩, _⟩ := hT.map
    rw [h] at hm; cases hm
  · obtain ⟨_, cur', hh⟩ := hT.row.lt g e
    rw [h] at hh
    injection hh with hh
    injection hh with _ h3 _
    exact h2 h3
theorem fields_two {fs : List Field} {a d : String} {b e : TypeId} {c f : Nat} (h : fs.map (fun f => (f.name, f.type, f.offset)) = [(a, b, c), (d, e, f)]) :
    ∃ f1 f2, fs = [f1, f2] ∧ (f1.name = a ∧ f1.type = b ∧ f1.offset = c) ∧ f2.name = d ∧ f2.type = e ∧ f2.offset = f := by
  match fs, h with
  | [f1, f2], h =>
    simp only [List.map_cons, List.map_nil, List.cons.injEq, Prod.mk.injEq, and_true] at h
    exact ⟨f1, f2, rfl, h.1, h.2⟩
theorem equalIn_pair {P : Program} (w : World) (d : Nat) (t : TypeId) (xs ys : Array Value) (ht : P.underlying t = some (.struct (P.fieldsOf t))) (hp : P.stoodInHeld t = false) {n1 n2 : String} {t1 t2 : TypeId} {o1 o2 : Nat}
    (hf : (P.fieldsOf t).toList.map (fun f => (f.name, f.type, f.offset)) = [(n1, t1, o1), (n2, t2, o2)]) (m1 : n1 ≠ "_") (m2 : n2 ≠ "_") {a1 b1 a2 b2 : Value}
    (h1 : (part t1 xs o1).run P w = .ok a1 w) (h1' : (part t1 ys o1).run P w = .ok b1 w) (h2 : (part t2 xs o2).run P w = .ok a2 w) (h2' : (part t2 ys o2).run P w = .ok b2 w) {p q : Bool}
    (e1 : (Op.equalIn d t1 a1 b1).run P w = .ok p w) (e2 : (Op.equalIn d t2 a2 b2).run P w = .ok q w) : (Op.equalIn (d + 1) t (.agg xs) (.agg ys)).run P w = .ok (p && q) w := by
  obtain ⟨f1, f2, hfs, ⟨rfl, rfl, rfl⟩, rfl, rfl, rfl⟩ := fields_two hf
  rw [run_equalIn_struct w d t xs ys ht hp, hfs, Op.eqFields, if_pos m1]
  simp only [Sem.run_bind, h1, h1', e1, Result.andThen_ok]
  cases p
  · simp
  · simp only [Bool.not_true, Bool.false_eq_true, if_false, Bool.true_and]
    rw [Op.eqFields, if_pos m2]
    simp only [Sem.run_bind, h2, h2', e2, Result.andThen_ok]
    cases q <;> simp [Op.eqFields]
theorem eql_pair {P : Program} (w : World) (t : TypeId) (xs ys : Array Value) {q : Bool} (h : (Op.equalIn (9999 + 1) t (.agg xs) (.agg ys)).run P w = .ok q w) : (binOp .eql t (.agg xs) (.agg ys)).run P w = .ok (.bool q) w ∧ (binOp .neq t (.agg xs) (.agg ys)).run P w = .ok (.bool (!q)) w := by
  rw [run_eql_struct, run_neq_struct, show (10000 : Nat) = 9999 + 1 from rfl, h]
  exact ⟨rfl, rfl⟩
set_option maxRecDepth 100000 in
theorem all_bits {p q : List Nat} (hp : p.length = 16) (hq : q.length = 16) : ((List.range 16).all fun i => wd p i == wd q i) = decide (p = q) := by
  rw [Bool.eq_iff_iff, decide_eq_true_iff, List.all_eq_true]
  constructor
  · intro h
    exact Bt.Bs.ext_wd hp hq fun i hi => by simpa using h i (List.mem_range.2 hi)
  · rintro rfl i _
    simp
theorem equalIn_bits (w : World) (d : Nat) {p q : List Nat} (hp : p.length = 16) (hq : q.length = 16) : (Op.equalIn (d + 1 + 1) 25 (.agg (Bt.cellsB p)) (.agg (Bt.cellsB q))).run Tryz.prog w = .ok (decide (p = q)) w := by
  obtain ⟨i0, hi0⟩ : ∃ i0, Tryz.prog.info? 23 = some i0 := by
    cases h : Tryz.prog.info? 23 with
    | none => have := Bt.cells23; simp [Program.cellsOf, h] at this
    | some i => exact ⟨i, rfl⟩
  rw [run_equalIn_array w (d + 1) (Bt.cellsB p) (Bt.cellsB q) Bt.under25 hi0, Bt.cells23, Bt.eqItems_bits w d hp hq _ (fun i hi => List.mem_range.1 hi), all_bits hp hq]
theorem structQ : Tryz.prog.underlying 27 = some (.struct (Tryz.prog.fieldsOf 27)) := by kernel_rfl
theorem heldQ : Tryz.prog.stoodInHeld 27 = false := by kernel_rfl
theorem fieldsQ : (Tryz.prog.fieldsOf 27).toList.map (fun f => (f.name, f.type, f.offset)) = [("Left", 25, 0), ("Goal", 3, 16)] := by kernel_rfl
theorem underI : Tryz.prog.underlying 3 = some (.int .i64) := by kernel_rfl
theorem partL16 (w : World) (r0 r1 r2 r3 r4 r5 r6 r7 r8 r9 r10 r11 r12 r13 r14 r15 : Nat) (g : Int) : (part 25 (cellsQ [r0, r1, r2, r3, r4, r5, r6, r7, r8, r9, r10, r11, r12, r13, r14, r15] g) 0).run Tryz.prog w = .ok (.agg (Bt.cellsB [r0, r1, r2, r3, r4, r5, r6, r7, r8, r9, r10, r11, r12, r13, r14, r15])) w := by kernel_rfl
theorem partG16 (w : World) (r0 r1 r2 r3 r4 r5 r6 r7 r8 r9 r10 r11 r12 r13 r14 r15 : Nat) (g : Int) : (part 3 (cellsQ [r0, r1, r2, r3, r4, r5, r6, r7, r8, r9, r10, r11, r12, r13, r14, r15] g) 16).run Tryz.prog w = .ok (.int .i64 g) w := by kernel_rfl
theorem partL (w : World) {r : List Nat} (hr : r.length = 16) (g : Int) : (part 25 (cellsQ r g) 0).run Tryz.prog w = .ok (.agg (Bt.cellsB r)) w := by
  match r, hr with
  | [r0, r1, r2, r3, r4, r5, r6, r7, r8, r9, r10, r11, r12, r13, r14, r15], _ => exact partL16 w r0 r1 r2 r3 r4 r5 r6 r7 r8 r9 r10 r11 r12 r13 r14 r15 g
theorem partG (w : World) {r : List Nat} (hr : r.length = 16) (g : Int) : (part 3 (cellsQ r g) 16).run Tryz.prog w = .ok (.int .i64 g) w := by
  match r, hr with
  | [r0, r1, r2, r3, r4, r5, r6, r7, r8, r9, r10, r11, r12, r13, r14, r15], _ => exact partG16 w r0 r1 r2 r3 r4 r5 r6 r7 r8 r9 r10 r11 r12 r13 r14 r15 g
theorem equalIn_seq (w : World) (d : Nat) {p q : List Nat} (hp : p.length = 16) (hq : q.length = 16) (g h : Int) : (Op.equalIn (d + 1 + 1 + 1) 27 (.agg (cellsQ p g)) (.agg (cellsQ q h))).run Tryz.prog w = .ok (decide (p = q) && (g == h)) w :=
  equalIn_pair w (d + 1 + 1) 27 _ _ structQ heldQ fieldsQ (by decide) (by decide) (partL w hp g) (partL w hq h) (partG w hp g) (partG w hq h) (equalIn_bits w d hp hq) (run_equalIn_int (P := Tryz.prog) w (d + 1) 3 .i64 .i64 g h underI)
def sameQ (p : List Nat) (g : Int) (q : List Nat) (h : Int) : Bool := decide (p = q) && (g == h)
theorem sameQ_self (p : List Nat) (g : Int) : sameQ p g p g = true := by simp [sameQ]
theorem eql_seq (w : World) {p q : List Nat} (hp : p.length = 16) (hq : q.length = 16) (g h : Int) : (binOp .eql 27 (.agg (cellsQ p g)) (.agg (cellsQ q h))).run Tryz.prog w = .ok (.bool (sameQ p g q h)) w ∧ (binOp .neq 27 (.agg (cellsQ p g)) (.agg (cellsQ q h))).run Tryz.prog w = .ok (.bool (!sameQ p g q h)) w := by
  have h1 := equalIn_seq w 9997 hp hq g h
  rw [show (9997 + 1 + 1 + 1 : Nat) = 9999 + 1 from rfl] at h1
  exact eql_pair w _ _ _ h1
theorem wpList_eqQ {ops : Array Oper} {rest : List Oper} {o : Oper} {a : Act} {Q : Exit → Act → World → Prop} (w : World) (x y : Operand) (t : TypeId) (hop : o.op = Op.binOp .eql 27 x y t)
    {p q : List Nat} {g h : Int} (hx : a.eval x = .agg (cellsQ p g)) (hy : a.eval y = .agg (cellsQ q h)) (hp : p.length = 16) (hq : q.length = 16) (hg : Region.wanted o (yielded ops a.tmps) = true) (hK : wpList Tryz.prog ops Q rest (a.put o.dst (.bool (sameQ p g q h))) w) : wpList Tryz.prog ops Q (o :: rest) a w := by
  refine Bt.wpList_want hg fun K' hK' => ?_
  have hrun := (eql_seq w hp hq g h).1
  unfold Oper.wp
  simp only [execOp, hop, hx, hy]
  simp [eqGuard, hrun, Result.andThen]
  exact hK' _ _ hK
theorem guardQ : Tryz.prog.eqGuardType Tryz.prog.depth 27 = false := by kernel_rfl
theorem wpList_neQ {ops : Array Oper} {rest : List Oper} {o : Oper} {a : Act} {Q : Exit → Act → World → Prop} (w : World) (x y : Operand) (t : TypeId) (hop : o.op = Op.binOp .neq 27 x y t)
    {p q : List Nat} {g h : Int} (hx : a.eval x = .agg (cellsQ p g)) (hy : a.eval y = .agg (cellsQ q h)) (hp : p.length = 16) (hq : q.length = 16) (hg : Region.wanted o (yielded ops a.tmps) = true) (hK : wpList Tryz.prog ops Q rest (a.put o.dst (.bool (!sameQ p g q h))) w) : wpList Tryz.prog ops Q (o :: rest) a w := by
  refine Bt.wpList_want hg fun K' hK' => ?_
  have hrun := (eql_seq w hp hq g h).2
  unfold Oper.wp
  simp only [execOp, hop, hx, hy]
  simp [eqGuard, hrun, Result.andThen]
  exact hK' _ _ hK
def SeqIn (w : World) (b o : Nat) (r : List Nat) (g : Int) : Prop := w.rangeAt b o (Bt.listB r ++ [.int .i64 g])
theorem SeqAt.seqIn {w : World} {b : Nat} {r : List Nat} {g : Int} (h : SeqAt w b r g) : SeqIn w b 0 r g := h.all
theorem loadQin (w : World) (b o : Nat) {r : List Nat} {g : Int} (h : SeqIn w b o r g) (hs : r.length = 16) : (Instr.loadAt 27 (.pointer (some ⟨b, o, none⟩))).run Tryz.prog w = .ok (.agg (cellsQ r g)) w :=
  run_loadAt_mid (P := Tryz.prog) w b o 27 (Bt.listB r ++ [Value.int .i64 g]) _ h Tryz.underlying27 rfl (by rw [sizeQ]; simp [Bt.listB, hs])
theorem SeqIn.left {w : World} {b o : Nat} {r : List Nat} {g : Int} (h : SeqIn w b o r g) : w.rangeAt b o (Bt.listB r) := fun j v hv => h j v (by
  rw [List.getElem?_append_left (List.getElem?_eq_some_iff.1 hv).1]; exact hv)
theorem SeqIn.goal {w : World} {b o : Nat} {r : List Nat} {g : Int} (h : SeqIn w b o r g) (hr : r.length = 16) : w.cell? ⟨b, o + 16, none⟩ = some (.int .i64 g) := by
  have hl : (Bt.listB r).length = 16 := (by simp [Bt.listB, hr])
  refine h 16 _ ?_
  rw [List.getElem?_append_right (by omega), hl]
  rfl
theorem loadBin (w : World) (b o : Nat) {r : List Nat} {g : Int} (h : SeqIn w b o r g) (hs : r.length = 16) : (Instr.loadAt 25 (.pointer (some ⟨b, o, none⟩))).run Tryz.prog w = .ok (.agg (Bt.cellsB r)) w :=
  run_loadAt_mid (P := Tryz.prog) w b o 25 (Bt.listB r) _ h.left Bt.under25 rfl (by rw [Bt.sizeB]; simp [Bt.listB, hs])
theorem results_seq1 {fn : Func} {p : Tmp} (h : fn.results = #[.cell p 27]) (tmps : Array Value) (w : World) (b : Nat) {r : List Nat} {g : Int} (hp : tmps.getD p undef = .pointer (some ⟨b, 0, none⟩)) (hr : SeqAt w b r g) (hs : r.length = 16) :
    (results fn tmps).run Tryz.prog w = .ok (.agg (cellsQ r g)) w := by
  have hp' : tmps[p]?.getD undef = .pointer (some ⟨b, 0, none⟩) := by simpa using hp
  simp [results, h, hp', asAddr, loadVarQ w b hr hs, Result.andThen]
theorem setG16 (_w : World) (_b : Nat) (r0 r1 r2 r3 r4 r5 r6 r7 r8 r9 r10 r11 r12 r13 r14 r15 : Nat) (g g' : Int) : (cellsQ [r0, r1, r2, r3, r4, r5, r6, r7, r8, r9, r10, r11, r12, r13, r14, r15] g).setIfInBounds 16 (.int .i64 g') = cellsQ [r0, r1, r2, r3, r4, r5, r6, r7, r8, r9, r10, r11, r12, r13, r14, r15] g' := by kernel_rfl
theorem SeqAt.setG {w : World} {b : Nat} {r : List Nat} {g : Int} (h : SeqAt w b r g) (hs : r.length = 16) (g' : Int) : SeqAt (w.setCell ⟨b, 16, none⟩ (.int .i64 g')) b r g' := by
  have := heap_setCell_same w b 16 (cellsQ r g) 27 (.int .i64 g') h
  match r, hs with
  | [r0, r1, r2, r3, r4, r5, r6, r7, r8, r9, r10, r11, r12, r13, r14, r15], _ => rw [setG16 w b] at this; exact this
theorem seq_zero (w : World) : SeqAt (w.alloc (.cells (#[.int .u64 0, .int .u64 0, .int .u64 0, .int .u64 0, .int .u64 0, .int .u64 0, .int .u64 0, .int .u64 0, .int .u64 0, .int .u64 0, .int .u64 0, .int .u64 0, .int .u64 0, .int .u64 0, .int .u64 0, .int .u64 0, .int .i64 0]) 27)) w.heap.size Bt.Bs.zero 0 := heap_alloc_last w _
end Go.Proofs.YtkejippimkjjaaaGreatDoor

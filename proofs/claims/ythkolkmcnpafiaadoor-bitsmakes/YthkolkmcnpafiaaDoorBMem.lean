/-
  A whole set loaded and stored by value, and handed back out of its cells: laws that the walks lean on. No condition.
-/
import Derived.Test.YthkolkmcnpafiaaDoorBKit
import Derived.Laws.CopyOwn
namespace Go.Proofs.YthkolkmcnpafiaaDoor
open Go.RowKit
open Bs (Ok wd)

/-- A set lies whole in the block g. -/
def RowAt (w : World) (g : Nat) (r : List Nat) : Prop := w.heap[g]? = some (.cells (cellsB r) 25 (0, 0))
theorem heap_two (w : World) (a b : Obj) : ((w.alloc a).alloc b).heap[w.heap.size]? = some a ∧ ((w.alloc a).alloc b).heap[w.heap.size + 1]? = some b := by
  constructor
  · show ((w.heap.push a).push b)[w.heap.size]? = some a
    rw [Array.getElem?_push_lt (by simp)]
    simp
  · show ((w.heap.push a).push b)[w.heap.size + 1]? = some b
    have : w.heap.size + 1 = (w.heap.push a).size := by simp
    rw [this, Array.getElem?_push_size]
theorem below_two (w : World) (a b : Obj) : Below w.heap.size w ((w.alloc a).alloc b) := (below_alloc w a).alloc (by rw [World.size_alloc]; omega) b
theorem zeroLit : (#[.int .u64 0, .int .u64 0, .int .u64 0, .int .u64 0, .int .u64 0, .int .u64 0, .int .u64 0, .int .u64 0, .int .u64 0, .int .u64 0, .int .u64 0, .int .u64 0, .int .u64 0, .int .u64 0, .int .u64 0, .int .u64 0] : Array Value) = cellsB Bs.zero := rfl
theorem under25 : Tryd.prog.underlying 25 = some (.array 16 23) := by kernel_rfl
theorem load25 (w : World) (g : Nat) {r : List Nat} (h : RowAt w g r) (hs : r.length = 16) : (Instr.loadAt 25 (.pointer (some ⟨g, 0, none⟩))).run Tryd.prog w = .ok (.agg (cellsB r)) w := by
  simp only [Instr.loadAt, Instr.sureAddr, Sem.run_bind, Sem.run_pure, Result.andThen]
  exact run_loadVar_row w g 25 25 (cellsB r) (0, 0) _ h under25 rfl (by rw [sizeB, cellsB_size hs])
theorem store25 (w : World) (g : Nat) {r r' : List Nat} (h : RowAt w g r) (hs : r.length = 16) (hs' : r'.length = 16) : (Instr.storeAt 25 (.pointer (some ⟨g, 0, none⟩)) (.agg (cellsB r'))).run Tryd.prog w = .ok () (w.setRow g (cellsB r')) := by
  simp only [Instr.storeAt, Instr.sureAddr, Sem.run_bind, Sem.run_pure, Result.andThen]
  exact run_storeVar_row w g 25 25 (cellsB r) (cellsB r') h (by rw [sizeB, cellsB_size hs']) (by rw [cellsB_size hs, cellsB_size hs']) (cellsB_one r')
theorem wpList_want {ops : Array Oper} {rest : List Oper} {o : Oper} {a : Act} {w : World} {Q : Exit → Act → World → Prop} (hw : Region.wanted o (yielded ops a.tmps) = true)
    (h : ∀ K : Act → World → Prop, (∀ a w, wpList Tryd.prog ops Q rest a w → K a w) → o.wp Tryd.prog a w K Q) : wpList Tryd.prog ops Q (o :: rest) a w :=
  wpList_step fun K hK => by rw [if_pos hw]; exact h K hK
theorem wpList_load16 {ops : Array Oper} {rest : List Oper} {o : Oper} {a : Act} {Q : Exit → Act → World → Prop} (w : World) (hg : Region.wanted o (yielded ops a.tmps) = true) (x : Operand) (hop : o.op = Op.load 25 x) (g : Nat) (hx : a.eval x = .pointer (some ⟨g, 0, none⟩))
    {r : List Nat} (h : RowAt w g r) (hs : r.length = 16) (hK : wpList Tryd.prog ops Q rest (a.put o.dst (.agg (cellsB r))) w) : wpList Tryd.prog ops Q (o :: rest) a w := by
  refine wpList_want hg fun K' hK' => ?_
  have hrun := load25 w g h hs
  unfold Oper.wp
  simp [execOp, hop, hx, hrun, Result.andThen]
  exact hK' _ _ hK
theorem wpList_store16 {ops : Array Oper} {rest : List Oper} {o : Oper} {a : Act} {Q : Exit → Act → World → Prop} (w : World) (hg : o.guard = none) (hd : o.dst = none) (x y : Operand) (hop : o.op = Op.store 25 x y) (g : Nat) (hx : a.eval x = .pointer (some ⟨g, 0, none⟩))
    {r' : List Nat} (hy : a.eval y = .agg (cellsB r')) {r : List Nat} (h : RowAt w g r) (hs : r.length = 16) (hs' : r'.length = 16) (hK : wpList Tryd.prog ops Q rest a (w.setRow g (cellsB r'))) : wpList Tryd.prog ops Q (o :: rest) a w := by
  refine wpList_plain hg fun K' hK' => ?_
  have hrun := store25 w g h hs hs'
  unfold Oper.wp
  simp [execOp, hop, hx, hy, hrun, Result.andThen]
  rw [Oper.upon_skip, hd]
  exact hK' _ _ hK
theorem RowAt.setRow {w : World} {g : Nat} {r : List Nat} (h : RowAt w g r) (r' : List Nat) : RowAt (w.setRow g (cellsB r')) g r' := setRow_heap w g _ _ _ _ h
theorem results_bits {fn : Func} {p : Tmp} (h : fn.results = #[.cell p 25]) (tmps : Array Value) (w : World) (g : Nat) {r : List Nat} (hp : tmps.getD p undef = .pointer (some ⟨g, 0, none⟩)) (hr : RowAt w g r) (hs : r.length = 16) :
    (results fn tmps).run Tryd.prog w = .ok (.agg (cellsB r)) w :=
  results_cell_row h tmps w g _ (cellsB r) _ _ hp hr under25 rfl (by rw [sizeB, cellsB_size hs])
theorem results_bits_tmp {fn : Func} {p t2 : Tmp} (h : fn.results = #[.cell p 25, .tmp t2]) (tmps : Array Value) (w : World) (g : Nat) {r : List Nat} (hp : tmps.getD p undef = .pointer (some ⟨g, 0, none⟩)) (hr : RowAt w g r) (hs : r.length = 16) :
    (results fn tmps).run Tryd.prog w = .ok (.tuple #[.agg (cellsB r), tmps.getD t2 undef]) w := by
  rw [results_cell_tmp h, hp]
  simp [asAddr, run_loadVar_row w g 25 25 (cellsB r) (0, 0) _ hr under25 rfl (by rw [sizeB, cellsB_size hs]), Result.andThen]
end Go.Proofs.YthkolkmcnpafiaaDoor

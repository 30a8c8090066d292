/-
  Arms of a walk whose worlds stay names: a variable boxed, made, loaded and stored whole. No condition.
-/
import Derived.Test.YtpddfooeaecekaaDoorZSeq
namespace Go.Proofs.YtpddfooeaecekaaDoor
open Go.RowKit Go.Shelf Go.Maps
open Fm (Nd)
set_option linter.unusedSimpArgs false

structure New (w w' : World) (b : Nat) (cs : Array Value) (T : TypeId) : Prop where
  blk : w'.heap[b]? = some (.cells cs T (0, 0))
  bel : Below w.heap.size w w'
  ge : w.heap.size ≤ b
  up : w'.heap.size = b + 1
  eq : b = w.heap.size
theorem new_alloc (w : World) (cs : Array Value) (T : TypeId) : New w (w.alloc (.cells cs T)) w.heap.size cs T :=
  ⟨heap_alloc_last w _, below_alloc w _, Nat.le_refl _, by simp, rfl⟩
def Cl (w : World) (b : Nat) (cs : Array Value) (T : TypeId) : Prop := w.heap[b]? = some (.cells cs T (0, 0))
theorem Cl.later {w w' : World} {b : Nat} {cs : Array Value} {T : TypeId} (h : Cl w b cs T) (hb : Below w.heap.size w w') : Cl w' b cs T := (hb.block b (lt_of_block h)).trans h
theorem Cl.lt {w : World} {b : Nat} {cs : Array Value} {T : TypeId} (h : Cl w b cs T) : b < w.heap.size := lt_of_block h
theorem Cl.cell {w : World} {b : Nat} {cs : Array Value} {T : TypeId} (h : Cl w b cs T) (j : Nat) : w.cell? ⟨b, j, none⟩ = cs[j]? := cell_of_row w b j _ _ _ h
theorem Cl.fr {w : World} {b : Nat} {cs : Array Value} {T : TypeId} (h : Cl w b cs T) (j : Nat) : w.frozen? ⟨b, j, none⟩ = false := frozen_of_row w b j _ _ h
theorem Cl.drew {w : World} {b : Nat} {cs : Array Value} {T : TypeId} (h : Cl w b cs T) : Cl w.drew b cs T := h
def Same (w W : World) : Prop := w.heap.size ≤ W.heap.size ∧ ∀ (k : Nat) (cs : Array Value) (T : TypeId) (fr : Nat × Nat), w.heap[k]? = some (.cells cs T fr) → (T ≠ 68 ∧ T ≠ 35) → (T ≠ 28 ∧ T ≠ 3) → W.heap[k]? = w.heap[k]?
theorem Same.of_below {w W : World} (h : Below w.heap.size w W) : Same w W := ⟨h.size, fun k _ _ _ hk _ _ => h.block k (lt_of_block hk)⟩
theorem Same.refl (w : World) : Same w w := ⟨Nat.le_refl _, fun _ _ _ _ _ _ _ => rfl⟩
theorem Same.trans {a b c : World} (h : Same a b) (k : Same b c) : Same a c := ⟨Nat.le_trans h.1 k.1, fun i cs T fr hi h1 h2 => by
  have e := h.2 i cs T fr hi h1 h2
  exact (k.2 i cs T fr (e.trans hi) h1 h2).trans e⟩
theorem Cl.same {w W : World} {b : Nat} {cs : Array Value} {T : TypeId} (h : Cl w b cs T) (h1 : T ≠ 68 ∧ T ≠ 35) (h2 : T ≠ 28 ∧ T ≠ 3) (hs : Same w W) : Cl W b cs T := (hs.2 b cs T (0, 0) h h1 h2).trans h
section
variable {ops : Array Oper} {rest : List Oper} {o : Oper} {a : Act} {Q : Exit → Act → World → Prop} {w : World}
theorem run_box (w : World) (T : TypeId) (cs : Array Value) : (Instr.box T (.agg cs)).run Tryd.prog w = .ok (.pointer (some ⟨w.heap.size, 0, none⟩)) (w.alloc (.cells cs T)) := by
  simp [Instr.box, go_sem]
theorem wpList_box (T : TypeId) (x : Operand) (hop : o.op = Op.box T x) (cs : Array Value) (hx : a.eval x = .agg cs) (hg : o.guard = none)
    (hK : ∀ w' b, New w w' b cs T → wpList Tryd.prog ops Q rest (a.put o.dst (.pointer (some ⟨b, 0, none⟩))) w') : wpList Tryd.prog ops Q (o :: rest) a w := by
  refine wpList_plain hg fun K' hK' => ?_
  have hrun := run_box w T cs
  unfold Oper.wp
  simp [execOp, hop, hx, hrun, Result.andThen]
  exact hK' _ _ (hK _ _ (new_alloc w cs T))
theorem wpList_box1 (T : TypeId) (x : Operand) (hop : o.op = Op.box T x) (v : Value) (hx : a.eval x = v) (hv : v.cells = #[v]) (hg : o.guard = none)
    (hK : ∀ w' b, New w w' b #[v] T → wpList Tryd.prog ops Q rest (a.put o.dst (.pointer (some ⟨b, 0, none⟩))) w') : wpList Tryd.prog ops Q (o :: rest) a w := by
  refine wpList_plain hg fun K' hK' => ?_
  have hrun : (Instr.box T v).run Tryd.prog w = .ok (.pointer (some ⟨w.heap.size, 0, none⟩)) (w.alloc (.cells #[v] T)) := by
    simp [Instr.box, go_sem]
    exact congrArg (fun c => w.alloc (Obj.cells c T)) hv
  unfold Oper.wp
  simp [execOp, hop, hx, hrun, Result.andThen]
  exact hK' _ _ (hK _ _ (new_alloc w _ T))
theorem wpList_alloc (T : TypeId) (hop : o.op = Op.alloc T) (cs : Array Value) (hz : ∀ w, (zeroValue T).run Tryd.prog w = .ok (.agg cs) w) (hg : o.guard = none)
    (hK : ∀ w' b, New w w' b cs T → wpList Tryd.prog ops Q rest (a.put o.dst (.pointer (some ⟨b, 0, none⟩))) w') : wpList Tryd.prog ops Q (o :: rest) a w := by
  refine wpList_plain hg fun K' hK' => ?_
  unfold Oper.wp
  simp [execOp, hop, Instr.alloc, hz, go_sem, Result.andThen]
  exact hK' _ _ (hK _ _ (new_alloc w _ T))
theorem wpList_alloc1 (T : TypeId) (hop : o.op = Op.alloc T) (z : Value) (hz : ∀ w, (zeroValue T).run Tryd.prog w = .ok z w) (hc : z.cells = #[z]) (hg : o.guard = none)
    (hK : ∀ w' b, New w w' b #[z] T → wpList Tryd.prog ops Q rest (a.put o.dst (.pointer (some ⟨b, 0, none⟩))) w') : wpList Tryd.prog ops Q (o :: rest) a w := by
  refine wpList_plain hg fun K' hK' => ?_
  have hrun : (execOp a.eval o).run Tryd.prog w = .ok (.value (.pointer (some ⟨w.heap.size, 0, none⟩))) (w.alloc (.cells #[z] T)) := by
    simp [execOp, hop, Instr.alloc, hz, go_sem, Result.andThen]
    exact congrArg (fun c => w.alloc (Obj.cells c T)) hc
  unfold Oper.wp
  rw [hrun, Oper.upon_value]
  exact hK' _ _ (hK _ _ (new_alloc w _ T))
theorem wpList_st (T : TypeId) (hg : o.guard = none) (hd : o.dst = none) (x y : Operand) (hop : o.op = Op.store T x y) (b : Nat) (hx : a.eval x = .pointer (some ⟨b, 0, none⟩)) (cs : Array Value) (hy : a.eval y = .agg cs) (old : Array Value) (T0 : TypeId) (h : Cl w b old T0)
    (hs : (Tryd.prog.info? T).map (·.size) = some cs.size) (hs' : old.size = cs.size) (h1 : cs.all (·.oneCell') = true) (hK : ∀ w', Cl w' b cs T0 → KpP b w w' → wpList Tryd.prog ops Q rest a w') : wpList Tryd.prog ops Q (o :: rest) a w := by
  refine wpList_plain hg fun K' hK' => ?_
  have hrun : (Instr.storeAt T (.pointer (some ⟨b, 0, none⟩)) (.agg cs)).run Tryd.prog w = .ok () (w.setRow b cs) := by
    simp only [Instr.storeAt, Instr.sureAddr, Sem.run_bind, Sem.run_pure, Result.andThen]
    exact run_storeVar_row w b T0 T old cs h hs hs' h1
  unfold Oper.wp
  simp [execOp, hop, hx, hy, hrun, Result.andThen]
  rw [Oper.upon_skip, hd]
  exact hK' _ _ (hK _ (setRow_heap w b _ _ _ _ h) (setRow_kp w b cs))
theorem wpList_ldw (T : TypeId) (x : Operand) (hop : o.op = Op.load T x) (b : Nat) (hx : a.eval x = .pointer (some ⟨b, 0, none⟩)) (cs : Array Value) (T0 : TypeId) (h : Cl w b cs T0) {d : TypeDesc} (hd : (match d with | .struct _ | .array _ _ => true | _ => false) = true) (hu : Tryd.prog.underlying T = some d) (hi : (Tryd.prog.info? T).map (·.size) = some cs.size)
    (hg : Region.wanted o (yielded ops a.tmps) = true) (hK : wpList Tryd.prog ops Q rest (a.put o.dst (.agg cs)) w) : wpList Tryd.prog ops Q (o :: rest) a w := by
  refine Bt.wpList_want hg fun K' hK' => ?_
  have hrun : (Instr.loadAt T (.pointer (some ⟨b, 0, none⟩))).run Tryd.prog w = .ok (.agg cs) w := by
    simp only [Instr.loadAt, Instr.sureAddr, Sem.run_bind, Sem.run_pure, Result.andThen]
    exact run_loadVar_row w b T0 T cs _ d h hu (by cases d <;> first | rfl | exact hd) hi
  unfold Oper.wp
  simp [execOp, hop, hx, hrun, Result.andThen]
  exact hK' _ _ hK
end
end Go.Proofs.YtpddfooeaecekaaDoor

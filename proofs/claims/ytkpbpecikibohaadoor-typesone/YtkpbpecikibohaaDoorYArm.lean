/-
  Arms of a walk whose worlds stay names: a variable boxed, made, loaded and stored whole; a row of numbers of one's own. No condition.
-/
import Derived.Test.YtkpbpecikibohaaDoorYTm
import Derived.Deep.WholeRow
import Derived.Laws.Tables
import Derived.Laws.CopyOwn
namespace Go.Proofs.YtkpbpecikibohaaDoor.Ya
open Go.RowKit Go.Maps
open Fm (Nd)
set_option linter.unusedSimpArgs false

def KpP (p : Nat) (w w' : World) : Prop := Kp (fun k => k = p) w w'
theorem KpP.trans {p : Nat} {a b c : World} (h : KpP p a b) (k : KpP p b c) : KpP p a c := Kp.trans h k fun _ e => Or.inl e
theorem KpP.of_below {p : Nat} {a b : World} (h : Below a.heap.size a b) : KpP p a b := Kp.of_below h
theorem KpP.set {p : Nat} {a b : World} (h : KpP p a b) (j : Nat) (x : Value) : KpP p a (b.setCell ⟨p, j, none⟩ x) :=
  ⟨h.os, h.tape, h.output, Nat.le_trans h.size (by simp), fun k hk hn => (Below.heap_setCell b ⟨p, j, none⟩ x k hn).trans (h.block k hk hn)⟩
theorem setRow_kp (w : World) (b : Nat) (c : Array Value) : KpP b w (w.setRow b c) := ⟨rfl, rfl, rfl, by simp, fun k _ hk => setRow_other w b k c hk⟩
theorem wpList_want {ops : Array Oper} {rest : List Oper} {o : Oper} {a : Act} {w : World} {Q : Exit → Act → World → Prop} (hw : Region.wanted o (yielded ops a.tmps) = true)
    (h : ∀ K : Act → World → Prop, (∀ a w, wpList Tryd.prog ops Q rest a w → K a w) → o.wp Tryd.prog a w K Q) : wpList Tryd.prog ops Q (o :: rest) a w :=
  wpList_step fun K hK => by rw [if_pos hw]; exact h K hK
structure New (w w' : World) (b : Nat) (cs : Array Value) (T : TypeId) : Prop where
  blk : w'.heap[b]? = some (.cells cs T (0, 0))
  bel : Below w.heap.size w w'
  ge : w.heap.size ≤ b
  up : w'.heap.size = b + 1
  eq : b = w.heap.size
theorem new_alloc (w : World) (cs : Array Value) (T : TypeId) : New w (w.alloc (.cells cs T)) w.heap.size cs T :=
  ⟨heap_alloc_last w _, below_alloc w _, Nat.le_refl _, by simp, rfl⟩
def Cl (w : World) (b : Nat) (cs : Array Value) (T : TypeId) : Prop := w.heap[b]? = some (.cells cs T (0, 0))
theorem Cl.later {w w' : World} {b : Nat} {cs : Array Value} {T : TypeId} (h : Cl w b cs T) (hb : Below w.heap.size w w') : Cl w' b cs T := (hb.block b (lt_of_block h)).trans h
theorem Cl.lt {w : World} {b : Nat} {cs : Array Value} {T : TypeId} (h : Cl w b cs T) : b < w.heap.size := lt_of_block h
theorem Cl.cell {w : World} {b : Nat} {cs : Array Value} {T : TypeId} (h : Cl w b cs T) (j : Nat) : w.cell? ⟨b, j, none⟩ = cs[j]? := cell_of_row w b j _ _ _ h
theorem Cl.fr {w : World} {b : Nat} {cs : Array Value} {T : TypeId} (h : Cl w b cs T) (j : Nat) : w.frozen? ⟨b, j, none⟩ = false := frozen_of_row w b j _ _ h
theorem Cl.drew {w : World} {b : Nat} {cs : Array Value} {T : TypeId} (h : Cl w b cs T) : Cl w.drew b cs T := h
section
variable {ops : Array Oper} {rest : List Oper} {o : Oper} {a : Act} {Q : Exit → Act → World → Prop} {w : World}
theorem run_box (w : World) (T : TypeId) (cs : Array Value) : (Instr.box T (.agg cs)).run Tryd.prog w = .ok (.pointer (some ⟨w.heap.size, 0, none⟩)) (w.alloc (.cells cs T)) := by
  simp [Instr.box, go_sem]
theorem wpList_box (T : TypeId) (x : Operand) (hop : o.op = Op.box T x) (cs : Array Value) (hx : a.eval x = .agg cs) (hg : o.guard = none)
    (hK : ∀ w' b, New w w' b cs T → wpList Tryd.prog ops Q rest (a.put o.dst (.pointer (some ⟨b, 0, none⟩))) w') : wpList Tryd.prog ops Q (o :: rest) a w := by
  refine wpList_plain hg fun K' hK' => ?_
  have hrun := run_box w T cs
  unfold Oper.wp
  simp [execOp, hop, hx, hrun, Result.andThen]
  exact hK' _ _ (hK _ _ (new_alloc w cs T))
theorem wpList_box1 (T : TypeId) (x : Operand) (hop : o.op = Op.box T x) (v : Value) (hx : a.eval x = v) (hv : v.cells = #[v]) (hg : o.guard = none)
    (hK : ∀ w' b, New w w' b #[v] T → wpList Tryd.prog ops Q rest (a.put o.dst (.pointer (some ⟨b, 0, none⟩))) w') : wpList Tryd.prog ops Q (o :: rest) a w := by
  refine wpList_plain hg fun K' hK' => ?_
  have hrun : (Instr.box T v).run Tryd.prog w = .ok (.pointer (some ⟨w.heap.size, 0, none⟩)) (w.alloc (.cells #[v] T)) := by
    simp [Instr.box, go_sem]
    exact congrArg (fun c => w.alloc (Obj.cells c T)) hv
  unfold Oper.wp
  simp [execOp, hop, hx, hrun, Result.andThen]
  exact hK' _ _ (hK _ _ (new_alloc w _ T))
theorem wpList_alloc (T : TypeId) (hop : o.op = Op.alloc T) (cs : Array Value) (hz : ∀ w, (zeroValue T).run Tryd.prog w = .ok (.agg cs) w) (hg : o.guard = none)
    (hK : ∀ w' b, New w w' b cs T → wpList Tryd.prog ops Q rest (a.put o.dst (.pointer (some ⟨b, 0, none⟩))) w') : wpList Tryd.prog ops Q (o :: rest) a w := by
  refine wpList_plain hg fun K' hK' => ?_
  unfold Oper.wp
  simp [execOp, hop, Instr.alloc, hz, go_sem, Result.andThen]
  exact hK' _ _ (hK _ _ (new_alloc w _ T))
theorem wpList_alloc1 (T : TypeId) (hop : o.op = Op.alloc T) (z : Value) (hz : ∀ w, (zeroValue T).run Tryd.prog w = .ok z w) (hc : z.cells = #[z]) (hg : o.guard = none)
    (hK : ∀ w' b, New w w' b #[z] T → wpList Tryd.prog ops Q rest (a.put o.dst (.pointer (some ⟨b, 0, none⟩))) w') : wpList Tryd.prog ops Q (o :: rest) a w := by
  refine wpList_plain hg fun K' hK' => ?_
  have hrun : (execOp a.eval o).run Tryd.prog w = .ok (.value (.pointer (some ⟨w.heap.size, 0, none⟩))) (w.alloc (.cells #[z] T)) := by
    simp [execOp, hop, Instr.alloc, hz, go_sem, Result.andThen]
    exact congrArg (fun c => w.alloc (Obj.cells c T)) hc
  unfold Oper.wp
  rw [hrun, Oper.upon_value]
  exact hK' _ _ (hK _ _ (new_alloc w _ T))
theorem wpList_st (T : TypeId) (hg : o.guard = none) (hd : o.dst = none) (x y : Operand) (hop : o.op = Op.store T x y) (b : Nat) (hx : a.eval x = .pointer (some ⟨b, 0, none⟩)) (cs : Array Value) (hy : a.eval y = .agg cs) (old : Array Value) (T0 : TypeId) (h : Cl w b old T0)
    (hs : (Tryd.prog.info? T).map (·.size) = some cs.size) (hs' : old.size = cs.size) (h1 : cs.all (·.oneCell') = true) (hK : ∀ w', Cl w' b cs T0 → KpP b w w' → wpList Tryd.prog ops Q rest a w') : wpList Tryd.prog ops Q (o :: rest) a w := by
  refine wpList_plain hg fun K' hK' => ?_
  have hrun : (Instr.storeAt T (.pointer (some ⟨b, 0, none⟩)) (.agg cs)).run Tryd.prog w = .ok () (w.setRow b cs) := by
    simp only [Instr.storeAt, Instr.sureAddr, Sem.run_bind, Sem.run_pure, Result.andThen]
    exact run_storeVar_row w b T0 T old cs h hs hs' h1
  unfold Oper.wp
  simp [execOp, hop, hx, hy, hrun, Result.andThen]
  rw [Oper.upon_skip, hd]
  exact hK' _ _ (hK _ (setRow_heap w b _ _ _ _ h) (setRow_kp w b cs))
theorem wpList_ldw (T : TypeId) (x : Operand) (hop : o.op = Op.load T x) (b : Nat) (hx : a.eval x = .pointer (some ⟨b, 0, none⟩)) (cs : Array Value) (T0 : TypeId) (h : Cl w b cs T0) {d : TypeDesc} (hd : (match d with | .struct _ | .array _ _ => true | _ => false) = true) (hu : Tryd.prog.underlying T = some d) (hi : (Tryd.prog.info? T).map (·.size) = some cs.size)
    (hg : Region.wanted o (yielded ops a.tmps) = true) (hK : wpList Tryd.prog ops Q rest (a.put o.dst (.agg cs)) w) : wpList Tryd.prog ops Q (o :: rest) a w := by
  refine wpList_want hg fun K' hK' => ?_
  have hrun : (Instr.loadAt T (.pointer (some ⟨b, 0, none⟩))).run Tryd.prog w = .ok (.agg cs) w := by
    simp only [Instr.loadAt, Instr.sureAddr, Sem.run_bind, Sem.run_pure, Result.andThen]
    exact run_loadVar_row w b T0 T cs _ d h hu (by cases d <;> first | rfl | exact hd) hi
  unfold Oper.wp
  simp [execOp, hop, hx, hrun, Result.andThen]
  exact hK' _ _ hK
theorem bsI (w : World) (n : Int) : (Instr.buildSlice 56 1 #[(0, .int .i64 n)]).run Tryd.prog w = .ok (.slice (some ⟨w.heap.size, 0, none⟩) 1 1) (w.alloc (.cells #[.int .i64 n] 3)) := by kernel_rfl
theorem wpList_bsI (hg : o.guard = none) (x : Operand) (hop : o.op = Op.buildSlice 56 1 #[(0, x)]) (n : Int) (hx : a.eval x = .int .i64 n)
    (hK : ∀ w' q, New w w' q #[.int .i64 n] 3 → wpList Tryd.prog ops Q rest (a.put o.dst (.slice (some ⟨q, 0, none⟩) 1 1)) w') : wpList Tryd.prog ops Q (o :: rest) a w := by
  refine wpList_plain hg fun K' hK' => ?_
  have hrun := bsI w n
  unfold Oper.wp
  simp [execOp, hop, hx, hrun, Result.andThen]
  exact hK' _ _ (hK _ _ (new_alloc w _ _))
end
theorem bel_new {w0 w w' : World} {b : Nat} {cs : Array Value} {T : TypeId} (h : Below w0.heap.size w0 w) (hn : New w w' b cs T) : Below w0.heap.size w0 w' := h.trans (hn.bel.mono h.size)
theorem bel_kp {w0 w w' : World} {p : Nat} (h : Below w0.heap.size w0 w) (hk : KpP p w w') (hp : w0.heap.size ≤ p) : Below w0.heap.size w0 w' :=
  ⟨hk.os.trans h.os, hk.tape.trans h.tape, hk.output.trans h.output, Nat.le_trans h.size hk.size, fun k hk2 => (hk.block k (Nat.lt_of_lt_of_le hk2 h.size) (by omega)).trans (h.block k hk2)⟩
theorem Cl.kp {w w' : World} {b p : Nat} {cs : Array Value} {T : TypeId} (h : Cl w b cs T) (hk : KpP p w w') (hp : b ≠ p) : Cl w' b cs T := (hk.block b h.lt hp).trans h
theorem Cl.new {w w' : World} {b p : Nat} {cs cs' : Array Value} {T T' : TypeId} (h : Cl w b cs T) (hn : New w w' p cs' T') : Cl w' b cs T := h.later hn.bel
theorem own_kp {base n size : Nat} {e : TypeId} {w w' : World} {v : Value} {xs : List Value} (h : w.ownsRow base e size v n xs) (hb : ∀ k, v.ownBlock = some k → w'.heap[k]? = w.heap[k]?) : w'.ownsRow base e size v n xs := by
  refine ⟨h.1, ?_⟩
  rcases h.2 with h2 | ⟨g, cap, cur, rfl, hg, hh, r⟩
  · exact Or.inl h2
  · exact Or.inr ⟨g, cap, cur, rfl, hg, (hb g rfl).trans hh, r⟩
theorem own_blk {base n size : Nat} {e : TypeId} {w : World} {v : Value} {xs : List Value} (h : w.ownsRow base e size v n xs) : ∀ k, v.ownBlock = some k → base ≤ k ∧ k < w.heap.size ∧ ∃ cur, w.heap[k]? = some (.cells cur e (0, 0)) := by
  intro k hk
  rcases h.2 with ⟨rfl, _⟩ | ⟨g, cap, cur, rfl, hg, hh, _⟩
  · cases hk
  · obtain rfl : g = k := Option.some.inj hk
    exact ⟨hg, lt_of_block hh, cur, hh⟩
theorem infoI1 : (Tryd.prog.info? 3).map (fun i => (i.zero, i.size, i.bytes)) = some (some (.int .i64 0), 1, 8) := by kernel_rfl
end Go.Proofs.YtkpbpecikibohaaDoor.Ya

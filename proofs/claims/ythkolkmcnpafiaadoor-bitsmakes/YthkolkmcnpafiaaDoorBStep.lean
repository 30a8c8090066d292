/-
  Regions that draw their order and store a whole set: step by step, whichever comes up. No condition.
-/
import Derived.Test.YthkolkmcnpafiaaDoorBReg
namespace Go.Proofs.YthkolkmcnpafiaaDoor
open Go.RowKit
open Bs (Ok wd)

/-- One operation that comes up, and what follows. -/
def StepH (ops : Array Oper) (Q : Exit → Act → World → Prop) (S : World → Prop) (fuel : Nat) (listed : Array Bool) (a : Act) (w : World) (i : Nat) (oi : Oper) : Prop :=
  ∀ K' : Act → World → Prop, Shut (∀ a w, S w → (S w → wpAnyH Tryd.prog .any ops Q S fuel (listed.setIfInBounds i true) a w) → K' a w) → if Region.wanted oi (yielded ops a.tmps) = true then Oper.wp Tryd.prog oi a w K' Q else K' (a.put oi.dst undef) w
section
variable {ops : Array Oper} {Q : Exit → Act → World → Prop} {S : World → Prop} {fuel : Nat} {listed : Array Bool} {a : Act} {w : World}
theorem oneH (i : Nat) {oi : Oper} (hr : Region.ready .any ops listed = [i]) (hi : ops[i]? = some oi) (h : StepH ops Q S fuel listed a w i oi) : wpAnyH Tryd.prog .any ops Q S (fuel + 1) listed a w :=
  wpAnyH_ready hr (by simp) (AllReadyH.cons hi h AllReadyH.nil)
theorem twoH (i j : Nat) {oi oj : Oper} (hr : Region.ready .any ops listed = [i, j]) (hi : ops[i]? = some oi) (hj : ops[j]? = some oj) (h : StepH ops Q S fuel listed a w i oi) (h2 : StepH ops Q S fuel listed a w j oj) : wpAnyH Tryd.prog .any ops Q S (fuel + 1) listed a w :=
  wpAnyH_ready hr (by simp) (AllReadyH.cons hi h (AllReadyH.cons hj h2 AllReadyH.nil))
theorem stepLoad (i : Nat) (d : Option Tmp) {oi : Oper} (hd : oi.dst = d) (hw : Region.wanted oi (yielded ops a.tmps) = true) (x : Operand) (ho : oi.op = .load 25 x) (g : Nat) (hx : a.eval x = .pointer (some ⟨g, 0, none⟩)) {r : List Nat} (hr : RowAt w g r) (hl : r.length = 16) (hS : S w)
    (h : S w → wpAnyH Tryd.prog .any ops Q S fuel (listed.setIfInBounds i true) (a.put d (.agg (cellsB r))) w) : StepH ops Q S fuel listed a w i oi := by
  subst hd
  intro K hK
  rw [if_pos hw]
  have := load25 w g hr hl
  unfold Oper.wp execOp
  simp only [ho, hx, Sem.run_bind, this, Result.andThen_ok, Sem.run_pure]
  rw [Oper.upon_value]
  exact hK.out _ _ hS h
theorem stepVal (i : Nat) (d : Option Tmp) {oi : Oper} (v : Value) (hd : oi.dst = d) (hw : Region.wanted oi (yielded ops a.tmps) = true) (hrun : (execOp a.eval oi).run Tryd.prog w = .ok (.value v) w) (hS : S w)
    (h : S w → wpAnyH Tryd.prog .any ops Q S fuel (listed.setIfInBounds i true) (a.put d v) w) : StepH ops Q S fuel listed a w i oi := by
  subst hd
  intro K hK
  rw [if_pos hw]
  unfold Oper.wp
  rw [hrun, Oper.upon_value]
  exact hK.out _ _ hS h
theorem stepCall (i : Nat) (d : Option Tmp) {oi : Oper} (hd : oi.dst = d) (hw : Region.wanted oi (yielded ops a.tmps) = true) (f : FuncId) (xs : List Operand) (ts : Array TypeId) (ho : oi.op = Op.call { callee := Callee.value (Operand.func f), args := xs.toArray, argTypes := ts }) (vs : List Value) (hv : xs.map a.eval = vs)
    (hcf : ∀ vs w, (callFunc f vs).run Tryd.prog w = .ok (.enter f vs) w)
    (h : Calls Tryd.prog f vs.toArray w fun e w' => ∃ v, e = .returned v ∧ S w' ∧ (S w' → wpAnyH Tryd.prog .any ops Q S fuel (listed.setIfInBounds i true) (a.put d v) w')) : StepH ops Q S fuel listed a w i oi := by
  subst hd
  subst hv
  intro K hK
  rw [if_pos hw]
  have hrun : (execOp a.eval oi).run Tryd.prog w = .ok (.enter f (xs.map a.eval).toArray) w := by
    simp [execOp, ho, resolve, invoke, Deferred.ofValue, Act.eval, hcf]
  unfold Oper.wp
  rw [hrun, Oper.upon_enter]
  refine h.mono ?_
  rintro e w' ⟨v, rfl, hS, hn⟩
  exact hK.out _ _ hS hn
theorem stepStore (i : Nat) {oi : Oper} (hd : oi.dst = none) (hw : Region.wanted oi (yielded ops a.tmps) = true) (x y : Operand) (ho : oi.op = .store 25 x y) (g : Nat) (hx : a.eval x = .pointer (some ⟨g, 0, none⟩)) {r' : List Nat} (hy : a.eval y = .agg (cellsB r')) {r : List Nat} (hr : RowAt w g r) (hl : r.length = 16) (hl' : r'.length = 16) (hS : S (w.setRow g (cellsB r')))
    (h : S (w.setRow g (cellsB r')) → wpAnyH Tryd.prog .any ops Q S fuel (listed.setIfInBounds i true) a (w.setRow g (cellsB r'))) : StepH ops Q S fuel listed a w i oi := by
  intro K hK
  rw [if_pos hw]
  have := store25 w g hr hl hl'
  unfold Oper.wp execOp
  simp only [ho, hx, hy, Sem.run_bind, this, Result.andThen_ok, Sem.run_pure]
  rw [Oper.upon_skip, hd]
  exact hK.out _ _ hS h
end
end Go.Proofs.YthkolkmcnpafiaaDoor

/-
  Arms of a walk within the wide fence whose worlds stay names. No condition.
-/
import Derived.Test.YtpddfooeaecekaaDoorZFind
import Derived.Test.YtpddfooeaecekaaDoorQRange
namespace Go.Proofs.YtpddfooeaecekaaDoor
open Go.RowKit Go.Shelf Go.Maps
open Fm (Nd)
set_option linter.unusedSimpArgs false
attribute [local go_sem] Oper.semAt_some

section
variable {P : Program} {ops : Array Oper} {rest : List Oper} {o : Oper} {Q : Exit → Act → World → Prop} {n : Nat} {a : Act} {w : World}
theorem op_wide (hnd : ∀ c, o.op ≠ .defer c) {K K' : Act → World → Prop} (hK : ∀ a w, K a w → K' a w) (h : o.wp P a w K Q) : o.wpIn Fence.wide n P a w K' Q := by
  refine ⟨fun _ _ => trivial, ?_⟩
  rw [Oper.semAt_eq _ _ _ hnd]
  unfold Oper.wp at h
  generalize (execOp a.eval o).run P w = r at *
  have hd : Fence.wide.depth.isSome = true → 1 ≤ n := fun h => by simp [Fence.wide] at h
  cases r with
  | ok x w' =>
    cases x <;> simp only [Oper.upon, Oper.uponIn] at h ⊢
    case value v => exact hK _ _ h
    case skip => exact hK _ _ h
    case defer d => exact hK _ _ h
    case enter f args =>
      refine ⟨hd, callsIn_wide.2 (Calls.mono h fun e w'' he => ?_)⟩
      cases e with
      | returned v => exact hK _ _ he
      | panicked c => exact he
      | outgrown => exact he
    case row row args => exact ⟨hd, fun c cs _ => let ⟨v, w', r, s⟩ := h c cs; ⟨v, w', hK _ _ r, stepsIn_wide.2 s⟩⟩
  | halt x w' =>
    cases x <;> simp only [Oper.upon, Oper.uponIn] at h ⊢
    case panic u => exact h
theorem inOp (hg : o.guard = none) (hnd : ∀ c, o.op ≠ .defer c) (h : ∀ K' : Act → World → Prop, (∀ a w, wpListIn Fence.wide n P ops Q rest a w → K' a w) → o.wp P a w K' Q) : wpListIn Fence.wide n P ops Q (o :: rest) a w :=
  wpListIn_plain hg fun K' hK' => op_wide hnd (fun _ _ h => h) (h K' hK')
end
section
variable {ops : Array Oper} {rest : List Oper} {o : Oper} {Q : Exit → Act → World → Prop} {n : Nat} {a : Act} {w : World}
theorem inLd (T : TypeId) (x : Operand) (hop : o.op = Op.load T x) (p : Value) (hx : a.eval x = p) (v : Value) (hrun : (Instr.loadAt T p).run Tryd.prog w = .ok v w) (hg : o.guard = none) (hK : wpListIn Fence.wide n Tryd.prog ops Q rest (a.put o.dst v) w) : wpListIn Fence.wide n Tryd.prog ops Q (o :: rest) a w := by
  refine inOp hg (fun c hc => by rw [hop] at hc; cases hc) fun K' hK' => ?_
  unfold Oper.wp
  simp [execOp, hop, hx, hrun, Result.andThen]
  exact hK' _ _ hK
theorem inAlloc (T : TypeId) (hop : o.op = Op.alloc T) (cs : Array Value) (hz : ∀ w, (zeroValue T).run Tryd.prog w = .ok (.agg cs) w) (hg : o.guard = none)
    (hK : ∀ w' b, New w w' b cs T → wpListIn Fence.wide n Tryd.prog ops Q rest (a.put o.dst (.pointer (some ⟨b, 0, none⟩))) w') : wpListIn Fence.wide n Tryd.prog ops Q (o :: rest) a w := by
  refine inOp hg (fun c hc => by rw [hop] at hc; cases hc) fun K' hK' => ?_
  unfold Oper.wp
  simp [execOp, hop, Instr.alloc, hz, go_sem, Result.andThen]
  exact hK' _ _ (hK _ _ (new_alloc w _ T))
theorem inSt (T : TypeId) (hg : o.guard = none) (hd : o.dst = none) (x y : Operand) (hop : o.op = Op.store T x y) (b : Nat) (hx : a.eval x = .pointer (some ⟨b, 0, none⟩)) (cs : Array Value) (hy : a.eval y = .agg cs) (old : Array Value) (T0 : TypeId) (h : Cl w b old T0)
    (hs : (Tryd.prog.info? T).map (·.size) = some cs.size) (hs' : old.size = cs.size) (h1 : cs.all (·.oneCell') = true) (hK : ∀ w', Cl w' b cs T0 → KpP b w w' → wpListIn Fence.wide n Tryd.prog ops Q rest a w') : wpListIn Fence.wide n Tryd.prog ops Q (o :: rest) a w := by
  refine inOp hg (fun c hc => by rw [hop] at hc; cases hc) fun K' hK' => ?_
  have hrun := stC (T := T) h hs hs' h1
  unfold Oper.wp
  simp [execOp, hop, hx, hy, hrun, Result.andThen]
  rw [Oper.upon_skip, hd]
  exact hK' _ _ (hK _ (setRow_heap w b _ _ _ _ h) (setRow_kp w b cs))
theorem inCallV (hg : o.guard = none) (f : FuncId) (x : Operand) (xs : List Operand) (ts : Array TypeId) (hop : o.op = Op.call { callee := Callee.value x, args := xs.toArray, argTypes := ts }) (vs cs : List Value) (hx : a.eval x = .func (.func f) #[] cs.toArray) (hv : xs.map a.eval = vs)
    (hcf : ∀ vs w, (callFunc f vs).run Tryd.prog w = .ok (.enter f vs) w) (h : Calls Tryd.prog f (vs ++ cs).toArray w fun e w' => ∃ v, e = .returned v ∧ wpListIn Fence.wide n Tryd.prog ops Q rest (a.put o.dst v) w') : wpListIn Fence.wide n Tryd.prog ops Q (o :: rest) a w := by
  subst hv
  refine inOp hg (fun c hc => by rw [hop] at hc; cases hc) fun K' hK' => ?_
  have hrun : (execOp a.eval o).run Tryd.prog w = .ok (.enter f (xs.map a.eval ++ cs).toArray) w := by
    simp [execOp, hop, resolve, invoke, Deferred.ofValue, hx, hcf]
  unfold Oper.wp
  rw [hrun, Oper.upon_enter]
  refine h.mono ?_
  rintro e w' ⟨v, rfl, hK⟩
  exact hK' _ _ hK
end
end Go.Proofs.YtpddfooeaecekaaDoor

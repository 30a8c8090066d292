/-
  A set compared with itself, in a region that draws its order. No condition.
-/
import Derived.Test.YthkolkmcnpafiaaDoorBReg
namespace Go.Proofs.YthkolkmcnpafiaaDoor
open Go.RowKit

theorem takeEqlT {ops : Array Oper} {Q : Exit → Act → World → Prop} {S : World → Prop} {fuel : Nat} {listed : Array Bool} {a : Act} {w : World} (i : Nat) (d : Option Tmp) {oi : Oper} (hi : ops[i]? = some oi) (hd : oi.dst = d) (hs : Region.noSelect ops = true) (hf : Region.free .any ops listed i = true) (hr : (Region.ready .any ops listed).contains i = true) (p : List Nat)
    (hQ : ∀ c a w, Q (.panic c) (a.put d (.bool true)) w → Q (.panic c) a w) (hw : Region.wanted oi (yielded ops a.tmps) = true) (x y : Operand) (t : TypeId) (ho : oi.op = Op.binOp .eql 25 x y t) (hx : a.eval x = .agg (cellsB p)) (hy : a.eval y = .agg (cellsB p)) (hp : p.length = 16) (hSw : S w)
    (h : wpAnyH Tryd.prog .any ops Q S fuel (listed.setIfInBounds i true) (a.put d (.bool true)) w) : wpAnyH Tryd.prog .any ops Q S (fuel + 1) listed a w := by
  subst hd
  exact wpAnyH_take hi hs hf hr hQ (.inl ⟨hw, fun w _ => by
    have := equal_bits w hp hp
    rw [decide_eq_true rfl] at this
    simp only [execOp, ho, hx, hy]
    simp [eqGuard, binOp, this, Result.andThen]⟩) hSw h
end Go.Proofs.YthkolkmcnpafiaaDoor

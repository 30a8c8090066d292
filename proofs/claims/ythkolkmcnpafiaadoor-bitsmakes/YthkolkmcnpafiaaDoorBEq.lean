/-
  Two sets compared whole, and the tests of sets that lean on it: Sub, Compare, Count, Next, and the document's. No condition.
-/
import Derived.Test.YthkolkmcnpafiaaDoorBJoin
import Derived.ChangeKeysEq
namespace Go.Proofs.YthkolkmcnpafiaaDoor
open Go.RowKit
open Bs (Ok wd)

theorem under23 : Tryd.prog.underlying 23 = some (.int .u64) := by kernel_rfl
theorem cells23 : Tryd.prog.cellsOf 23 = 1 := by kernel_rfl
theorem agg23 (w : World) : (isAgg 23).run Tryd.prog w = .ok false w := by
  simp [isAgg, run_underlying under23]
theorem part_bits (w : World) {p : List Nat} {i : Nat} (hi : i < p.length) : (part 23 (cellsB p) i).run Tryd.prog w = .ok (.int .u64 (wd p i : Int)) w := by
  simp only [part, Sem.run_bind, agg23, Result.andThen_ok, Bool.false_eq_true, if_false, cellsB_at hi]
  rfl
theorem eqItems_bits (w : World) (d : Nat) {p q : List Nat} (hp : p.length = 16) (hq : q.length = 16) : ∀ is : List Nat, (∀ i ∈ is, i < 16) → (Op.eqItems (d + 1) 23 1 (cellsB p) (cellsB q) is).run Tryd.prog w = .ok (is.all fun i => wd p i == wd q i) w
  | [], _ => rfl
  | i :: is, h => by
    have hi := h i List.mem_cons_self
    have ih := eqItems_bits w d hp hq is (fun j hj => h j (List.mem_cons_of_mem _ hj))
    have e1 : (Op.equalIn (d + 1) 23 (.int .u64 (wd p i : Int)) (.int .u64 (wd q i : Int))).run Tryd.prog w = .ok (wd p i == wd q i) w := by
      simp only [Op.equalIn, Sem.run_bind, run_underlying under23, Result.andThen_ok, if_true, Sem.run_pure]
      congr 1
      rw [Bool.eq_iff_iff]
      simp only [beq_iff_eq]
      omega
    simp only [Op.eqItems, Sem.run_bind, Nat.mul_one, part_bits w (show i < p.length by omega), part_bits w (show i < q.length by omega), Result.andThen_ok, e1]
    cases h1 : (wd p i == wd q i)
    · simp [h1]
    · simp only [Bool.not_true, Bool.false_eq_true, if_false, ih, List.all_cons, h1, Bool.true_and]
theorem equal_bits (w : World) {p q : List Nat} (hp : p.length = 16) (hq : q.length = 16) : (Op.equal 25 (.agg (cellsB p)) (.agg (cellsB q))).run Tryd.prog w = .ok (decide (p = q)) w := by
  obtain ⟨i0, hi0⟩ : ∃ i0, Tryd.prog.info? 23 = some i0 := by
    cases h : Tryd.prog.info? 23 with
    | none => have := cells23; simp [Program.cellsOf, h] at this
    | some i => exact ⟨i, rfl⟩
  show (Op.equalIn (9998 + 1 + 1) _ _ _).run Tryd.prog w = _
  rw [run_equalIn_array w (9998 + 1) (cellsB p) (cellsB q) under25 hi0, cells23, eqItems_bits w 9998 hp hq _ (fun i hi => List.mem_range.1 hi)]
  congr 1
  rw [Bool.eq_iff_iff, decide_eq_true_iff, List.all_eq_true]
  constructor
  · intro h
    exact Bs.ext_wd hp hq fun i hi => by simpa using h i (List.mem_range.2 hi)
  · rintro rfl i _
    simp
theorem guard25 : Tryd.prog.eqGuardType Tryd.prog.depth 25 = false := by kernel_rfl
theorem wpList_eql16 {ops : Array Oper} {rest : List Oper} {o : Oper} {a : Act} {Q : Exit → Act → World → Prop} (w : World) (hg : Region.wanted o (yielded ops a.tmps) = true) (x y : Operand) (t : TypeId) (hop : o.op = Op.binOp .eql 25 x y t)
    {p q : List Nat} (hx : a.eval x = .agg (cellsB p)) (hy : a.eval y = .agg (cellsB q)) (hp : p.length = 16) (hq : q.length = 16) (hK : wpList Tryd.prog ops Q rest (a.put o.dst (.bool (decide (p = q)))) w) : wpList Tryd.prog ops Q (o :: rest) a w := by
  refine wpList_want hg fun K' hK' => ?_
  have hrun := equal_bits w hp hq
  unfold Oper.wp
  simp only [execOp, hop, hx, hy]
  simp [eqGuard, binOp, hrun, Result.andThen]
  exact hK' _ _ hK
end Go.Proofs.YthkolkmcnpafiaaDoor

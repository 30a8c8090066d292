/-
  The names that stand in a formula, those that stand positively and negatively: what the document's walk over the numbers puts is what the program sorts. No other condition.
-/
import Derived.Test.YthdcppkohalkmaaGreatMAtom
import Derived.Test.YthdcppkohalkmaaGreatNThree
namespace Go.Proofs.YthdcppkohalkmaaGreat
open Fm (Nd)

/-! ### the names that stand in a formula -/
theorem namesU_filter (t : List Nd) (p q : Nat → Bool) (l : List Nat) : namesU t p (l.filter q) = namesU t (fun j => p j && q j) l := by
  unfold namesU
  rw [List.filter_filter]
  congr 2
  funext j
  exact Bool.and_assoc _ _ _
theorem nmU_below {t : List Nd} (id : Nat) (p q : Nat → Bool) (h : ∀ j, (p j && Ms.supp (Ms.plc t id) j) = q j) : nmU t q (id + 1) = namesS t p (Fm.below t id) := by
  unfold nmU namesS
  show rise _ = rise _
  congr 1
  unfold Fm.below
  rw [← Ms.supp_plc, namesU_filter]
  congr 1
  funext j
  exact (h j).symm
theorem nm_all {t : List Nd} (id : Nat) : nmU t (fun j => decide (0 < (Ms.plc t id j).1 + (Ms.plc t id j).2)) (id + 1) = allN t id :=
  nmU_below id _ _ fun j => by simp [Ms.supp]
theorem inr_plc (t : List Nd) (id : Nat) : Ms.Inr (Ms.plc t id) := Ms.inr_fold t _ (Ms.inr_c0 id)
theorem nm_pos {t : List Nd} (id : Nat) : nmU t (fun j => decide (0 < (Ms.plc t id j).1)) (id + 1) = posN t id :=
  nmU_below id _ _ fun j => by
    have := inr_plc t id j
    unfold Ms.supp
    by_cases h : 0 < (Ms.plc t id j).1
    · simp only [h, decide_true, Bool.true_and, decide_eq_true_eq]
      omega
    · simp [h]
theorem nm_neg {t : List Nd} (id : Nat) : nmU t (fun j => decide (0 < (Ms.plc t id j).2)) (id + 1) = negN t id :=
  nmU_below id _ _ fun j => by
    have := inr_plc t id j
    unfold Ms.supp
    by_cases h : 0 < (Ms.plc t id j).2
    · simp only [h, decide_true, Bool.true_and, decide_eq_true_eq]
      omega
    · simp [h]
end Go.Proofs.YthdcppkohalkmaaGreat

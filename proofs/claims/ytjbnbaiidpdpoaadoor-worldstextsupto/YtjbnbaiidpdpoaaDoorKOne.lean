/-
  A region that draws its order and holds one call for which all else waits, or that waits for it. No condition.
-/
import Derived.Test.YtjbnbaiidpdpoaaDoorKRel
namespace Go.Proofs.YtjbnbaiidpdpoaaDoor
open Go.RowKit
set_option linter.unusedSimpArgs false

section
variable {P : Program} {ops : Array Oper} {Q : Exit → Act → World → Prop}
theorem wp_region_one {id : Nat} {a0 : Act} {w : World} (hm : P.follows .mixedOrders = true) (c : Nat) (dsts : List (Option Tmp)) (needs deps : List (List Nat)) (hc : relOk .any ops dsts needs a0.tmps.size = true) (hdp : depOk needs deps ops.size = true) (V : Nat → Value → World → Prop)
    (hfree : ∀ j v w1 w2, j ≠ c → c ∉ deps.getD j [] → V j v w1 → V j v w2)
    (step : ∀ i, i < ops.size → ∀ a w1, ((i = c ∨ i ∈ deps.getD c []) → w1 = w.drew) → Outs dsts a0 a → (∀ j ∈ needs.getD i [], ∃ v, Got a (dsts.getD j none) v ∧ V j v w1) →
      wpOp P ops Q i (fun a' w' => ∃ v, a' = a.put (dsts.getD i none) v ∧ V i v w' ∧ (i ≠ c → w' = w1)) a w1)
    (fin : ∀ (vs : Nat → Value) (w1 : World), (∀ i, i < ops.size → V i (vs i) w1) → Q .normal (putAll dsts vs 0 a0) w1) : (Code.region id ops true).wp P Q a0 w := by
  refine wp_region_dep hm dsts needs deps hc hdp V (fun done w1 => done c = false → w1 = w.drew) (fun i w1 w2 => i ≠ c → w2 = w1) ?_ (fun _ => rfl) ?_ ?_
  · intro i j v w1 w2 hij hn hl hV
    by_cases e : i = c
    · subst e
      exact hfree j v w1 w2 (fun e => hij e.symm) hn hV
    · rw [hl e]
      exact hV
  · intro i hi done a w1 hS h0 hd hno hO hN
    refine wpOp_mono (fun a' w' h => ?_) (step i hi a w1 (fun h => hS ?_) hO hN)
    · obtain ⟨v, h1, h2, h3⟩ := h
      refine ⟨v, h1, h2, fun hdone => ?_, h3⟩
      simp only [Bool.or_eq_false_iff, beq_eq_false_iff_ne] at hdone
      rw [h3 (fun e => hdone.1 e.symm)]
      exact hS hdone.2
    · rcases h with rfl | h
      · exact h0
      · exact hno c h
  · intro vs done w1 _ _ hV
    exact fin vs w1 hV
theorem wp_region_two {id : Nat} {a0 : Act} {w : World} (hm : P.follows .mixedOrders = true) (c u : Nat) (dsts : List (Option Tmp)) (needs deps : List (List Nat)) (hc : relOk .any ops dsts needs a0.tmps.size = true) (hdp : depOk needs deps ops.size = true) (hu : c ∈ needs.getD u []) (V : Nat → Value → World → Prop) (T : World → Prop) (U : World → World → Prop)
    (hfree : ∀ j v w1 w2, j ≠ c → c ∉ deps.getD j [] → V j v w1 → V j v w2)
    (hst : ∀ j v w1 w2, j ≠ u → u ∉ deps.getD j [] → U w1 w2 → V j v w1 → V j v w2) (hT : T w.drew)
    (step : ∀ i, i < ops.size → ∀ a w1, ((i = c ∨ i ∈ deps.getD c []) → w1 = w.drew) → T w1 → Outs dsts a0 a → (∀ j ∈ needs.getD i [], ∃ v, Got a (dsts.getD j none) v ∧ V j v w1) →
      wpOp P ops Q i (fun a' w' => ∃ v, a' = a.put (dsts.getD i none) v ∧ V i v w' ∧ T w' ∧ (i ≠ c → i ≠ u → w' = w1) ∧ (i = u → U w1 w')) a w1)
    (fin : ∀ (vs : Nat → Value) (w1 : World), (∀ i, i < ops.size → V i (vs i) w1) → Q .normal (putAll dsts vs 0 a0) w1) : (Code.region id ops true).wp P Q a0 w := by
  refine wp_region_dep hm dsts needs deps hc hdp V (fun done w1 => (done c = false → w1 = w.drew) ∧ T w1) (fun i w1 w2 => (i ≠ c → i ≠ u → w2 = w1) ∧ (i = u → U w1 w2)) ?_ ⟨fun _ => rfl, hT⟩ ?_ ?_
  · intro i j v w1 w2 hij hn hl hV
    by_cases e : i = c
    · subst e
      exact hfree j v w1 w2 (fun e => hij e.symm) hn hV
    · by_cases e2 : i = u
      · subst e2
        exact hst j v w1 w2 (fun e => hij e.symm) hn (hl.2 rfl) hV
      · rw [hl.1 e e2]
        exact hV
  · intro i hi done a w1 hS h0 hd hno hO hN
    refine wpOp_mono (fun a' w' h => ?_) (step i hi a w1 (fun h => hS.1 ?_) hS.2 hO hN)
    · obtain ⟨v, h1, h2, h3, h4, h5⟩ := h
      refine ⟨v, h1, h2, ⟨fun hdone => ?_, h3⟩, h4, h5⟩
      simp only [Bool.or_eq_false_iff, beq_eq_false_iff_ne] at hdone
      by_cases e2 : i = u
      · subst e2
        have := hd c hu
        rw [hdone.2] at this
        cases this
      · rw [h4 (fun e => hdone.1 e.symm) e2]
        exact hS.1 hdone.2
    · rcases h with rfl | h
      · exact h0
      · exact hno c h
  · intro vs done w1 _ _ hV
    exact fin vs w1 hV
end
end Go.Proofs.YtjbnbaiidpdpoaaDoor

/-
  A region that draws its order, in a round of a range over a function. No condition.
-/
import Derived.Test.YtjbnbaiidpdpoaaDoorWLines
import Derived.Test.YtjbnbaiidpdpoaaDoorWNums
import Derived.LoopNIn
namespace Go.Proofs.YtjbnbaiidpdpoaaDoor.Wm
open Go.RowKit Go.Shelf Go.Maps
set_option linter.unusedSimpArgs false
attribute [local go_sem] Oper.semAt_some

section
variable {P : Program} {ops : Array Oper} {Q : Exit → Act → World → Prop} {l n : Nat}
theorem op_round {o : Oper} (hnd : ∀ c, o.op ≠ .defer c) {a : Act} {w : World} {K K' : Act → World → Prop} (hK : ∀ a w, K a w → K' a w) (h : o.wp P a w K Q) : o.wpIn (Fence.wide.inRound l) n P a w K' Q := by
  refine ⟨fun _ _ => trivial, ?_⟩
  rw [Oper.semAt_eq _ _ _ hnd]
  unfold Oper.wp at h
  generalize (execOp a.eval o).run P w = r at *
  have hd : (Fence.wide.inRound l).depth.isSome = true → 1 ≤ n := fun h => by simp [Fence.wide] at h
  cases r with
  | ok x w' =>
    cases x <;> simp only [Oper.upon, Oper.uponIn] at h ⊢
    case value v => exact hK _ _ h
    case skip => exact hK _ _ h
    case defer d => exact hK _ _ h
    case enter f args =>
      refine ⟨hd, CallsIn.inRound l (callsIn_wide.2 (Calls.mono h fun e w'' he => ?_))⟩
      cases e with
      | returned v => exact hK _ _ he
      | panicked c => exact he
      | outgrown => exact he
    case row row args => exact ⟨hd, fun c cs _ => let ⟨v, w', r, s⟩ := h c cs; ⟨v, w', hK _ _ r, stepsIn_wide.2 s⟩⟩
  | halt x w' =>
    cases x <;> simp only [Oper.upon, Oper.uponIn] at h ⊢
    case panic u => exact h
theorem any_round (hnd : ∀ (i : Nat) (o : Oper), ops[i]? = some o → ∀ c, o.op ≠ .defer c) (hQ : ¬ LetsOut Q) {md : Region.Mode} : ∀ (fuel : Nat) (listed : Array Bool) (a : Act) (w : World), wpAny P md ops Q fuel listed a w → wpAnyIn (Fence.wide.inRound l) n P md ops Q fuel listed a w
  | 0, _, _, _, h => h
  | fuel + 1, listed, a, w, h => by
    refine ⟨h.1, fun i hi => ?_⟩
    have h2 := h.2 i hi
    unfold wpOp at h2
    unfold wpOpIn
    cases ho : ops[i]? with
    | none => rw [ho] at h2; exact any_round hnd hQ fuel _ a w h2
    | some o =>
      rw [ho] at h2
      simp only at h2 ⊢
      split <;> rename_i hw
      · rw [if_pos hw] at h2
        rcases h2 with h2 | h2
        · exact op_round (hnd i o ho) (fun a w h => any_round hnd hQ fuel _ a w h) h2
        · exact absurd h2.2 hQ
      · rw [if_neg hw] at h2
        exact ⟨fun _ _ => trivial, any_round hnd hQ fuel _ _ w h2⟩
theorem region_dep_round {id : Nat} {a0 : Act} {w : World} (hm : P.follows .mixedOrders = true) (hnd : (ops.all fun o => match o.op with | .defer _ => false | _ => true) = true) (hQ : ¬ LetsOut Q) (dsts : List (Option Tmp)) (needs deps : List (List Nat)) (hc : relOk .any ops dsts needs a0.tmps.size = true) (hdp : depOk needs deps ops.size = true) (R : Nat → Value → World → Prop) (S : (Nat → Bool) → World → Prop) (le : Nat → World → World → Prop)
    (hle : ∀ i j v w w', i ≠ j → i ∉ deps.getD j [] → le i w w' → R j v w → R j v w') (h0 : S (fun _ => false) w.drew)
    (step : ∀ i, i < ops.size → ∀ (done : Nat → Bool) a w, S done w → done i = false → (∀ j ∈ needs.getD i [], done j = true) → (∀ j, i ∈ deps.getD j [] → done j = false) → Outs dsts a0 a → (∀ j ∈ needs.getD i [], ∃ v, Got a (dsts.getD j none) v ∧ R j v w) →
      wpOp P ops Q i (fun a' w' => ∃ v, a' = a.put (dsts.getD i none) v ∧ R i v w' ∧ S (fun j => j == i || done j) w' ∧ le i w w') a w)
    (fin : ∀ (vs : Nat → Value) (done : Nat → Bool) (w : World), (∀ i, i < ops.size → done i = true) → S done w → (∀ i, i < ops.size → R i (vs i) w) → Q .normal (putAll dsts vs 0 a0) w) : (Code.region id ops true).wpIn (Fence.wide.inRound l) n P Q a0 w := by
  have hf : (fun j => (Array.replicate ops.size false).getD j false) = fun _ => false := by
    funext j
    rcases Nat.lt_or_ge j ops.size with h | h
    · simp [h]
    · simp [h]
  refine wpIn_region_any hm (any_round (fun i o ho c hc => ?_) hQ _ _ _ _ (wpAny_relD_go dsts needs deps hc hdp R S le hle step fin _ _ _ _ (by simp) ?_ ⟨by rw [hf]; exact h0, fun j hj => ?_, ⟨rfl, rfl, fun _ _ => rfl⟩, fun j hj => ?_⟩))
  · have h1 := (Array.all_eq_true'.1 hnd) o (Array.mem_of_getElem? ho)
    rw [hc] at h1
    cases h1
  · refine Nat.le_trans List.countP_le_length ?_
    simp
  · rw [show (Array.replicate ops.size false).getD j false = false from congrFun hf j] at hj
    cases hj
  · rcases Nat.lt_or_ge j ops.size with h | h
    · simp [h] at hj
    · simp [h] at hj
end
end Go.Proofs.YtjbnbaiidpdpoaaDoor.Wm

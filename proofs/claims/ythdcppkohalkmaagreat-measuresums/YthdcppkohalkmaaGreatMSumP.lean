/-
  Plain mathematics for MeasureSums: what occurs in a formula, row by row of those that stand in it. No condition.
-/
import Derived.Test.YthdcppkohalkmaaGreatMPure
namespace Go.Proofs.YthdcppkohalkmaaGreat.Ms
open Fm (Nd)

def sumL (f : Nat → Int) : List Nat → Int
  | [] => 0
  | x :: l => f x + sumL f l
theorem sumL_append (f : Nat → Int) (a b : List Nat) : sumL f (a ++ b) = sumL f a + sumL f b := by
  induction a with
  | nil => simp [sumL]
  | cons x a ih => simp only [List.cons_append, sumL, ih]; omega
theorem sumL_snoc (f : Nat → Int) (a : List Nat) (x : Nat) : sumL f (a ++ [x]) = sumL f a + f x := by rw [sumL_append]; simp [sumL]
theorem tot_filter (f : Nat → Int) (mk : Nat → Bool) (h : ∀ j, mk j = false → f j = 0) : ∀ k, tot f k = sumL f ((List.range k).filter mk)
  | 0 => rfl
  | k + 1 => by
    rw [List.range_succ, List.filter_append, sumL_append]
    unfold tot
    rw [tot_filter f mk h k]
    cases hk : mk k
    · rw [h k hk]; simp [hk, sumL]
    · simp [hk, sumL]
theorem sum_below {t : List Nd} (h : Fm.Ok t) {id : Nat} (hid : id < t.length) (hw : weightV t id < M) : sumL (nn (plc t id)) (Fm.below t id) = sizeV t id := by
  have h1 := weight_U h hid
  have h2 := size_U h hid
  have h3 := size_le_weight h hid
  have hs : sizeU t id < M := by omega
  have e := size_sum h hid hs
  unfold Fm.below
  rw [← tot_filter, e, h2.1]
  · omega
  · intro j hj
    rw [← supp_plc] at hj
    have := zero_of_supp (c := plc t id) (inr_fold t _ (inr_c0 id)) hj
    unfold nn
    rw [this]
    rfl
theorem sumL_le (f : Nat → Int) (B : Int) (hB : 0 ≤ B) (hf : ∀ j, 0 ≤ f j ∧ f j ≤ B) : ∀ l : List Nat, 0 ≤ sumL f l ∧ sumL f l ≤ B * l.length
  | [] => by simp [sumL]
  | x :: l => by
    have := sumL_le f B hB hf l
    have := hf x
    simp only [sumL, List.length_cons]
    have e : B * ((l.length + 1 : Nat) : Int) = B * (l.length : Int) + B := by rw [Int.natCast_add, Int.mul_add]; simp
    omega
theorem nn_in (t : List Nd) (id j : Nat) : 0 ≤ nn (plc t id) j ∧ nn (plc t id) j ≤ 2199023255552 := by
  have := inr_fold t (List.range (id + 1)) (inr_c0 id) j
  unfold M at this
  unfold nn plc
  omega
/-- What the law asks of a row that stands in a formula. -/
theorem part_in {t : List Nd} (h : Fm.Ok t) {id : Nat} (hid : id < t.length) (hw : weightV t id < M) {j : Nat} (hj : j ∈ Fm.below t id) : j < t.length ∧ (j = id ∨ weightV t j < weightV t id) ∧ 1 ≤ (plc t id j).1 + (plc t id j).2 := by
  have hlt := below_lt t id j hj
  have h1 := weight_U h hid
  have h2 := weight_U h (i := j) (by omega)
  have h3 := below_weight h hid hj
  have h4 := (mem_below h hid j).1 hj
  refine ⟨by omega, ?_, by omega⟩
  rcases h3 with e | e
  · exact Or.inl e
  · right; omega
end Go.Proofs.YthdcppkohalkmaaGreat.Ms

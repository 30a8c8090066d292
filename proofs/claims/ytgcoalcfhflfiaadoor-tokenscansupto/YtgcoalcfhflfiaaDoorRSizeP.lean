/-
  How many bytes a rune has, as the document tells it by ranges: it is what the model decodes. Plain; nothing of the program is named here. No condition.
-/
import Derived.Test.YtgcoalcfhflfiaaDoorTPure
set_option linter.unusedSimpArgs false
namespace Go.Proofs.YtgcoalcfhflfiaaDoor.Tk

/-- Is there a byte from lo to hi at a place? -/
def mor (l : List UInt8) (k lo hi : Nat) : Bool := decide (k < l.length) && (decide (lo ≤ byt l k) && decide (byt l k ≤ hi))
theorem mor_con (l : List UInt8) (k : Nat) : mor l k 128 191 = con l k := by
  unfold mor con
  congr 1
  have := (l.getD k 0).toNat_lt
  rw [Bool.eq_iff_iff]
  simp only [Bool.and_eq_true, decide_eq_true_eq, beq_iff_eq]
  omega
theorem mor_sub (l : List UInt8) (k lo hi : Nat) (h1 : 128 ≤ lo) (h2 : hi ≤ 191) : mor l k lo hi = (con l k && (decide (lo ≤ byt l k) && decide (byt l k ≤ hi))) := by
  rw [← mor_con]
  unfold mor
  rw [Bool.eq_iff_iff]
  simp only [Bool.and_eq_true, decide_eq_true_eq]
  omega
theorem valid_iff (r : Nat) : Utf8.valid (r : Int) = (decide (r < 55296) || (decide (57344 ≤ r) && decide (r ≤ 1114111))) := by
  unfold Utf8.valid
  rw [Bool.eq_iff_iff]
  simp only [Bool.and_eq_true, Bool.or_eq_true, decide_eq_true_eq]
  omega
theorem size_1 (l : List UInt8) (h : byt l 0 < 194 ∨ 244 < byt l 0) : (dec l).2 = 1 := by
  have h0 := (l.getD 0 0).toNat_lt
  have e0 : (l.getD 0 0).toNat = byt l 0 := rfl
  unfold dec decF
  simp only [valid_iff, Bool.and_eq_true, Bool.or_eq_true, decide_eq_true_eq, beq_iff_eq]
  repeat' split
  all_goals first | rfl | (exfalso; omega)
theorem size_2 (l : List UInt8) (h1 : 194 ≤ byt l 0) (h2 : byt l 0 ≤ 223) : (dec l).2 = if mor l 1 128 191 then 2 else 1 := by
  rw [mor_con]
  unfold dec decF
  cases hc : con l 1
  · simp only [Bool.and_false, Bool.false_and, Bool.false_eq_true, if_false]
    split <;> rfl
  · simp only [valid_iff, Bool.and_true, Bool.and_eq_true, Bool.or_eq_true, decide_eq_true_eq, beq_iff_eq, if_true]
    repeat' split
    all_goals first | rfl | (exfalso; omega)
theorem size_3 (l : List UInt8) (lo hi : Nat) (h : (byt l 0 = 224 ∧ lo = 160 ∧ hi = 191) ∨ (byt l 0 = 237 ∧ lo = 128 ∧ hi = 159) ∨ (225 ≤ byt l 0 ∧ byt l 0 ≤ 239 ∧ byt l 0 ≠ 237 ∧ lo = 128 ∧ hi = 191)) : (dec l).2 = if mor l 1 lo hi && mor l 2 128 191 then 3 else 1 := by
  have hb := (l.getD 1 0).toNat_lt
  have eb : (l.getD 1 0).toNat = byt l 1 := rfl
  have hx : con l 1 = true → 128 ≤ byt l 1 ∧ byt l 1 ≤ 191 := fun hc => by
    rw [← mor_con] at hc
    simp only [mor, Bool.and_eq_true, decide_eq_true_eq] at hc
    exact hc.2
  have hx2 : con l 2 = true → 128 ≤ byt l 2 ∧ byt l 2 ≤ 191 := fun hc => by
    rw [← mor_con] at hc
    simp only [mor, Bool.and_eq_true, decide_eq_true_eq] at hc
    exact hc.2
  rw [mor_con, mor_sub l 1 lo hi (by omega) (by omega)]
  unfold dec decF
  cases hc : con l 1
  · simp only [Bool.and_false, Bool.false_and, Bool.false_eq_true, if_false]
    split <;> rfl
  · have hx' := hx hc
    cases hc2 : con l 2
    · simp only [valid_iff, Bool.and_true, Bool.and_false, Bool.false_and, Bool.false_eq_true, if_false, Bool.and_eq_true, Bool.or_eq_true, decide_eq_true_eq, beq_iff_eq]
      repeat' split
      all_goals first | rfl | (exfalso; omega)
    · have hx2' := hx2 hc2
      simp only [valid_iff, Bool.and_true, Bool.true_and, Bool.and_eq_true, Bool.or_eq_true, decide_eq_true_eq, beq_iff_eq, ge_iff_le]
      repeat' split
      all_goals first | rfl | (exfalso; omega)
theorem size_4 (l : List UInt8) (lo hi : Nat) (h : (byt l 0 = 240 ∧ lo = 144 ∧ hi = 191) ∨ (byt l 0 = 244 ∧ lo = 128 ∧ hi = 143) ∨ (241 ≤ byt l 0 ∧ byt l 0 ≤ 243 ∧ lo = 128 ∧ hi = 191)) : (dec l).2 = if mor l 1 lo hi && mor l 2 128 191 && mor l 3 128 191 then 4 else 1 := by
  have hx : ∀ k, con l k = true → 128 ≤ byt l k ∧ byt l k ≤ 191 := fun k hc => by
    rw [← mor_con] at hc
    simp only [mor, Bool.and_eq_true, decide_eq_true_eq] at hc
    exact hc.2
  rw [mor_con, mor_con, mor_sub l 1 lo hi (by omega) (by omega)]
  unfold dec decF
  cases hc : con l 1
  · simp only [Bool.and_false, Bool.false_and, Bool.false_eq_true, if_false]
    split <;> rfl
  · have hx' := hx 1 hc
    cases hc2 : con l 2
    · simp only [valid_iff, Bool.and_true, Bool.and_false, Bool.false_and, Bool.false_eq_true, if_false, Bool.and_eq_true, Bool.or_eq_true, decide_eq_true_eq, beq_iff_eq]
      repeat' split
      all_goals first | rfl | (exfalso; omega)
    · have hx2' := hx 2 hc2
      cases hc3 : con l 3
      · simp only [valid_iff, Bool.and_true, Bool.and_false, Bool.false_and, Bool.false_eq_true, if_false, Bool.and_eq_true, Bool.or_eq_true, decide_eq_true_eq, beq_iff_eq, ge_iff_le]
        repeat' split
        all_goals first | rfl | (exfalso; omega)
      · have hx3' := hx 3 hc3
        simp only [valid_iff, Bool.and_true, Bool.true_and, Bool.and_eq_true, Bool.or_eq_true, decide_eq_true_eq, beq_iff_eq, ge_iff_le]
        repeat' split
        all_goals first | rfl | (exfalso; omega)
end Go.Proofs.YtgcoalcfhflfiaaDoor.Tk

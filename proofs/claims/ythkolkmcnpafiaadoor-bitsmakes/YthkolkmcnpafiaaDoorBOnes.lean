/-
  The count of a word's ones by adding fields beside one another is the number of its bits that are one. No condition.
-/
import Derived.Test.YthkolkmcnpafiaaDoorBPure
namespace Go.Proofs.YthkolkmcnpafiaaDoor
namespace Bs

/-- The first three steps: each byte then holds its own count. -/
def fold1 (x : Nat) : Nat := (x / 2 &&& 6148914691236517205) + (x &&& 6148914691236517205)
def fold2 (x : Nat) : Nat := (x / 4 &&& 3689348814741910323) + (x &&& 3689348814741910323)
def fold3 (x : Nat) : Nat := (x / 16 + x) &&& 1085102592571150095

/-- The masks, k bytes long. -/
def m1 : Nat → Nat
  | 0 => 0
  | k + 1 => 256 * m1 k + 85
def m2 : Nat → Nat
  | 0 => 0
  | k + 1 => 256 * m2 k + 51
def m4 : Nat → Nat
  | 0 => 0
  | k + 1 => 256 * m4 k + 15
theorem and_split (a b M m : Nat) (hb : b < 256) (hm : m < 256) : (256 * a + b) &&& (256 * M + m) = 256 * (a &&& M) + (b &&& m) := by
  have hand : b &&& m < 2 ^ 8 := Nat.and_lt_two_pow b hm
  apply Nat.eq_of_testBit_eq
  intro j
  rw [Nat.testBit_and, show (256 : Nat) = 2 ^ 8 by rfl, Nat.testBit_two_pow_mul_add _ hb, Nat.testBit_two_pow_mul_add _ hm, Nat.testBit_two_pow_mul_add _ hand]
  split <;> rw [Nat.testBit_and]
/-- A shift to the right by s, of which the mask sees only the byte's own bits. -/
theorem shr_split (a b M m s : Nat) (hb : b < 256) (hm : m < 2 ^ (8 - s)) (hs : s ≤ 8) : ((256 * a + b) / 2 ^ s) &&& (256 * M + m) = 256 * ((a / 2 ^ s) &&& M) + ((b / 2 ^ s) &&& m) := by
  have hm8 : m < 2 ^ 8 := Nat.lt_of_lt_of_le hm (Nat.pow_le_pow_right (by omega) (by omega))
  have hand : (b / 2 ^ s) &&& m < 2 ^ 8 := Nat.and_lt_two_pow _ hm8
  apply Nat.eq_of_testBit_eq
  intro j
  rw [Nat.testBit_and, Nat.testBit_div_two_pow, show (256 : Nat) = 2 ^ 8 by rfl, Nat.testBit_two_pow_mul_add _ hb, Nat.testBit_two_pow_mul_add _ hm8, Nat.testBit_two_pow_mul_add _ hand]
  by_cases hj : j < 8
  · rw [if_pos hj, if_pos hj, Nat.testBit_and, Nat.testBit_div_two_pow]
    by_cases h2 : s + j < 8
    · rw [if_pos (by omega)]
    · have : m.testBit j = false := Nat.testBit_lt_two_pow (Nat.lt_of_lt_of_le hm (Nat.pow_le_pow_right (by omega) (by omega)))
      rw [this]; simp
  · rw [if_neg hj, if_neg hj, if_neg (by omega), Nat.testBit_and, Nat.testBit_div_two_pow]
    congr 2
    omega
/-- The three steps at k bytes. -/
def g1 (k x : Nat) : Nat := (x / 2 &&& m1 k) + (x &&& m1 k)
def g2 (k x : Nat) : Nat := (x / 4 &&& m2 k) + (x &&& m2 k)
def g4 (k x : Nat) : Nat := (x / 16 + x) &&& m4 k
def h1 (b : Nat) : Nat := (b / 2 &&& 85) + (b &&& 85)
def h2 (b : Nat) : Nat := (b / 4 &&& 51) + (b &&& 51)
def h4 (b : Nat) : Nat := (b / 16 + b) &&& 15
theorem g1_step (k a b : Nat) (hb : b < 256) : g1 (k + 1) (256 * a + b) = 256 * g1 k a + h1 b := by
  have e1 := shr_split a b (m1 k) 85 1 hb (by decide) (by omega)
  have e2 := and_split a b (m1 k) 85 hb (by omega)
  rw [Nat.pow_one] at e1
  unfold g1 h1
  rw [show m1 (k + 1) = 256 * m1 k + 85 from rfl, e1, e2]
  omega
theorem g2_step (k a b : Nat) (hb : b < 256) : g2 (k + 1) (256 * a + b) = 256 * g2 k a + h2 b := by
  have e1 := shr_split a b (m2 k) 51 2 hb (by decide) (by omega)
  have e2 := and_split a b (m2 k) 51 hb (by omega)
  rw [show (2 : Nat) ^ 2 = 4 by rfl] at e1
  unfold g2 h2
  rw [show m2 (k + 1) = 256 * m2 k + 51 from rfl, e1, e2]
  omega
/-- The third step, where no field runs over: a's lowest half byte is at most 4, b is at most 68. -/
theorem g4_step (k a b : Nat) (hb : b / 16 + b + 16 * (a % 16) < 256) (hlow : (16 * (a % 16) + (b / 16 + b)) &&& 15 = h4 b) : g4 (k + 1) (256 * a + b) = 256 * g4 k a + h4 b := by
  unfold g4
  rw [show m4 (k + 1) = 256 * m4 k + 15 from rfl]
  have e : (256 * a + b) / 16 + (256 * a + b) = 256 * (a / 16 + a) + (16 * (a % 16) + (b / 16 + b)) := by omega
  rw [e, and_split _ _ _ _ (by omega) (by omega), hlow]
def byteOnes (b : Nat) : Nat := h4 (h2 (h1 b))
theorem low15 (n c : Nat) : (16 * c + n) &&& 15 = n &&& 15 := by
  apply Nat.eq_of_testBit_eq
  intro j
  rw [Nat.testBit_and, Nat.testBit_and]
  by_cases hj : j < 4
  · congr 1
    have e1 : (16 * c + n).testBit j = ((16 * c + n) % 2 ^ 4).testBit j := by rw [Nat.testBit_mod_two_pow]; simp [hj]
    have e2 : n.testBit j = (n % 2 ^ 4).testBit j := by rw [Nat.testBit_mod_two_pow]; simp [hj]
    rw [e1, e2]
    congr 1
    omega
  · have : (15 : Nat).testBit j = false := Nat.testBit_lt_two_pow (x := 15) (Nat.lt_of_lt_of_le (show 15 < 2 ^ 4 by decide) (Nat.pow_le_pow_right (by omega) (by omega)))
    rw [this]; simp
theorem byte_all : ∀ b : Fin 256, h2 (h1 b.val) ≤ 68 ∧ h2 (h1 b.val) % 16 ≤ 4 ∧ h1 b.val < 256 ∧ byteOnes b.val = (List.range 8).countP b.val.testBit ∧ byteOnes b.val ≤ 8 := by decide +kernel
theorem pop_split (k a b : Nat) (hb : b < 256) : (List.range (8 * (k + 1))).countP (256 * a + b).testBit = (List.range 8).countP b.testBit + (List.range (8 * k)).countP a.testBit := by
  rw [show 8 * (k + 1) = 8 + 8 * k by omega, List.range_add, List.countP_append, List.countP_map]
  congr 1
  · refine List.countP_congr fun j hj => ?_
    have := List.mem_range.1 hj
    rw [show (256 : Nat) = 2 ^ 8 by rfl, Nat.testBit_two_pow_mul_add _ hb, if_pos this]
  · refine List.countP_congr fun j hj => ?_
    show (256 * a + b).testBit (8 + j) = true ↔ _
    rw [show (256 : Nat) = 2 ^ 8 by rfl, Nat.testBit_two_pow_mul_add _ hb, if_neg (by omega), show 8 + j - 8 = j by omega]
/-- Each byte's count in its own byte, k bytes; the lowest half byte of what comes ahead of the third step is at most 4. -/
def bytes : Nat → Nat → Nat
  | 0, _ => 0
  | k + 1, x => 256 * bytes k (x / 256) + byteOnes (x % 256)
theorem folds : ∀ (k x : Nat), x < 256 ^ k → g4 k (g2 k (g1 k x)) = bytes k x ∧ g2 k (g1 k x) % 16 ≤ 4
  | 0, x, h => by
    have : x = 0 := by simpa using h
    subst this
    decide
  | k + 1, x, h => by
    have hlt : x % 256 < 256 := Nat.mod_lt _ (by omega)
    obtain ⟨q1, q2, q3, _, _⟩ := byte_all ⟨x % 256, hlt⟩
    simp only at q1 q2 q3
    have hx : x = 256 * (x / 256) + x % 256 := by omega
    obtain ⟨i1, i2⟩ := folds k (x / 256) (by rw [Nat.pow_succ] at h; exact Nat.div_lt_of_lt_mul (by omega))
    have e1 : g1 (k + 1) x = 256 * g1 k (x / 256) + h1 (x % 256) := by
      conv => lhs; rw [hx]
      exact g1_step k _ _ hlt
    have e2 : g2 (k + 1) (g1 (k + 1) x) = 256 * g2 k (g1 k (x / 256)) + h2 (h1 (x % 256)) := by rw [e1]; exact g2_step k _ _ q3
    rw [e2]
    refine ⟨?_, by omega⟩
    rw [g4_step k _ _ (by omega) (low15 _ _), i1]
    rfl
theorem bytes_pop : ∀ (k x : Nat), x < 256 ^ k → ∃ l : List Nat, l.length = k ∧ (∀ c ∈ l, c ≤ 8) ∧ l.sum = (List.range (8 * k)).countP x.testBit ∧ bytes k x = l.foldr (fun c r => 256 * r + c) 0
  | 0, x, h => ⟨[], rfl, by simp, by simp, rfl⟩
  | k + 1, x, h => by
    have hlt : x % 256 < 256 := Nat.mod_lt _ (by omega)
    obtain ⟨_, _, _, q4, q5⟩ := byte_all ⟨x % 256, hlt⟩
    simp only at q4 q5
    obtain ⟨l, h1, h2, h3, h4⟩ := bytes_pop k (x / 256) (by rw [Nat.pow_succ] at h; exact Nat.div_lt_of_lt_mul (by omega))
    refine ⟨byteOnes (x % 256) :: l, by simp [h1], ?_, ?_, ?_⟩
    · intro c hc
      rcases List.mem_cons.1 hc with rfl | hc
      · exact q5
      · exact h2 c hc
    · have hx : x = 256 * (x / 256) + x % 256 := by omega
      rw [List.sum_cons, h3, q4]
      conv => rhs; rw [hx]
      rw [pop_split k _ _ hlt]
    · rw [bytes, h4]; rfl
theorem fold_bytes {x : Nat} (hx : x < 18446744073709551616) : fold3 (fold2 (fold1 x)) = bytes 8 x := (folds 8 x hx).1
/-- The last steps: the bytes are added, and the lowest seven bits are the sum. -/
theorem ones_last {x y : Nat} (hx : x < 18446744073709551616) (hy : y = fold3 (fold2 (fold1 x))) :
    ∃ c0 c1 c2 c3 c4 c5 c6 c7 : Nat, c0 ≤ 8 ∧ c1 ≤ 8 ∧ c2 ≤ 8 ∧ c3 ≤ 8 ∧ c4 ≤ 8 ∧ c5 ≤ 8 ∧ c6 ≤ 8 ∧ c7 ≤ 8 ∧ pop x = c0 + c1 + c2 + c3 + c4 + c5 + c6 + c7 ∧ y = c0 + 256 * (c1 + 256 * (c2 + 256 * (c3 + 256 * (c4 + 256 * (c5 + 256 * (c6 + 256 * c7)))))) := by
  obtain ⟨l, h1, h2, h3, h4⟩ := bytes_pop 8 x hx
  rw [fold_bytes hx, h4] at hy
  match l, h1, h2, h3, hy with
  | [c0, c1, c2, c3, c4, c5, c6, c7], _, h2, h3, hy =>
    refine ⟨c0, c1, c2, c3, c4, c5, c6, c7, h2 _ (by simp), h2 _ (by simp), h2 _ (by simp), h2 _ (by simp), h2 _ (by simp), h2 _ (by simp), h2 _ (by simp), h2 _ (by simp), ?_, ?_⟩
    · rw [pop, ← h3]; simp; omega
    · rw [hy]; simp; omega
end Bs
end Go.Proofs.YthkolkmcnpafiaaDoor

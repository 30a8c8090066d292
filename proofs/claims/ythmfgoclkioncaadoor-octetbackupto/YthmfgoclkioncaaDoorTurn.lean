/-
  Bits that are turned in a row of bytes: a sealed row of which some of up to 32 neighbouring bits are turned is no sealed row. Nothing of the program is named here. No condition.
-/
import Derived.Test.YthmfgoclkioncaaDoorBurst
namespace Go.Proofs.YthmfgoclkioncaaDoor.Oct

def flip (l : List UInt8) (p : Nat) : List UInt8 := l.set (p / 8) (UInt8.ofNat ((l.getD (p / 8) 0).toNat ^^^ 2 ^ (p % 8)))
theorem flip_length (l : List UInt8) (p : Nat) : (flip l p).length = l.length := by simp [flip]
theorem flip_bit (l : List UInt8) (p q : Nat) (hp : p < 8 * l.length) : bit (flip l p) q = (bit l q ^^ decide (p = q)) := by
  unfold bit flip
  have hd : p / 8 < l.length := by omega
  by_cases h : p / 8 = q / 8
  · have e : (l.set (p / 8) (UInt8.ofNat ((l.getD (p / 8) 0).toNat ^^^ 2 ^ (p % 8)))).getD (q / 8) 0 = UInt8.ofNat ((l.getD (p / 8) 0).toNat ^^^ 2 ^ (p % 8)) := by
      rw [← h, List.getD, List.getElem?_set_self hd]; rfl
    rw [e, ofNat_toNat, ← h]
    have hlt : (l.getD (p / 8) 0).toNat ^^^ 2 ^ (p % 8) < 256 := Nat.xor_lt_two_pow (n := 8) (UInt8.toNat_lt _) (Nat.pow_lt_pow_right (by omega) (by omega))
    rw [Nat.mod_eq_of_lt hlt, Nat.testBit_xor, Nat.testBit_two_pow]
    congr 1
    have : (p % 8 = q % 8) ↔ p = q := by omega
    simp [this]
  · have e : (l.set (p / 8) (UInt8.ofNat ((l.getD (p / 8) 0).toNat ^^^ 2 ^ (p % 8)))).getD (q / 8) 0 = l.getD (q / 8) 0 := by
      rw [List.getD, List.getElem?_set_ne h]; rfl
    rw [e]
    have : p ≠ q := fun e => h (by rw [e])
    simp [this]
/-- The first i bits of a mask are turned from bit k on. -/
def turn (l : List UInt8) (k m : Nat) : Nat → List UInt8
  | 0 => l
  | i + 1 => if m.testBit i then flip (turn l k m i) (k + i) else turn l k m i
def some (m : Nat) : Nat → Bool
  | 0 => false
  | i + 1 => some m i || m.testBit i
theorem turn_length (l : List UInt8) (k m : Nat) : ∀ i, (turn l k m i).length = l.length
  | 0 => rfl
  | i + 1 => by
    simp only [turn]
    split
    · rw [flip_length, turn_length l k m i]
    · exact turn_length l k m i
theorem turn_bit (l : List UInt8) (k m q : Nat) : ∀ i, k + i ≤ 8 * l.length → bit (turn l k m i) q = (bit l q ^^ (decide (k ≤ q ∧ q < k + i) && m.testBit (q - k)))
  | 0, _ => by
    have : ¬ (k ≤ q ∧ q < k + 0) := by omega
    simp only [turn, this, decide_false, Bool.false_and, Bool.xor_false]
  | i + 1, h => by
    have ih := turn_bit l k m q i (by omega)
    simp only [turn]
    by_cases hq : q = k + i
    · have h1 : ¬ (k ≤ q ∧ q < k + i) := by omega
      have h2 : k ≤ q ∧ q < k + (i + 1) := by omega
      rw [decide_eq_false h1, Bool.false_and, Bool.xor_false] at ih
      rw [decide_eq_true h2, Bool.true_and, show q - k = i by omega]
      split
      · rename_i hm
        rw [flip_bit _ _ _ (by rw [turn_length]; omega), ih, decide_eq_true hq.symm, hm]
      · rename_i hm
        rw [ih]
        simp [hm]
    · have h1 : (k ≤ q ∧ q < k + i) ↔ (k ≤ q ∧ q < k + (i + 1)) := by omega
      have e : decide (k ≤ q ∧ q < k + (i + 1)) = decide (k ≤ q ∧ q < k + i) := by simp [h1]
      rw [e, ← ih]
      split
      · rw [flip_bit _ _ _ (by rw [turn_length]; omega), decide_eq_false (fun e => hq e.symm), Bool.xor_false]
      · rfl
theorem some_bit (m : Nat) : ∀ i, some m i = true → ∃ j, j < i ∧ m.testBit j = true
  | 0, h => by simp [some] at h
  | i + 1, h => by
    simp only [some, Bool.or_eq_true] at h
    rcases h with h | h
    · obtain ⟨j, hj, hm⟩ := some_bit m i h
      exact ⟨j, by omega, hm⟩
    · exact ⟨i, by omega, h⟩
theorem none_turn (l : List UInt8) (k m : Nat) : ∀ i, some m i = false → turn l k m i = l
  | 0, _ => rfl
  | i + 1, h => by
    simp only [some, Bool.or_eq_false_iff] at h
    simp only [turn, h.2]
    exact none_turn l k m i h.1
theorem sealed_take (l : List UInt8) : (sealed l).take l.length = l := by simp [sealed]
/-- WHAT IS TURNED IS TOLD, AND NOTHING ELSE. -/
theorem told_burst (l : List UInt8) (k m i : Nat) (hi : i ≤ 32) (hk : k + i ≤ 8 * (l.length + 4)) : (sealed ((turn (sealed l) k m i).take l.length) = turn (sealed l) k m i) ↔ some m i = false := by
  have hl := turn_length (sealed l) k m i
  rw [sealed_length] at hl
  constructor
  · intro h
    cases hs : some m i with
    | false => rfl
    | true =>
      exfalso
      obtain ⟨j, hj, hm⟩ := some_bit m i hs
      have hb := turn_bit (sealed l) k m (k + j) i (by rw [sealed_length]; omega)
      rw [decide_eq_true (show k ≤ k + j ∧ k + j < k + i by omega), Bool.true_and, show k + j - k = j by omega, hm] at hb
      have hn := no_burst ((turn (sealed l) k m i).take l.length) l (by simp; omega) k (fun q hq hne => by
        rw [h, turn_bit (sealed l) k m q i (by rw [sealed_length]; omega)] at hne
        by_cases hc : k ≤ q ∧ q < k + i
        · omega
        · rw [decide_eq_false hc] at hne
          simp at hne) (k + j) (by omega)
      rw [h, hb] at hn
      cases hx : bit (sealed l) (k + j) <;> simp [hx] at hn
  · intro hs
    rw [none_turn _ _ _ _ hs, sealed_take]
end Go.Proofs.YthmfgoclkioncaaDoor.Oct

/-
  The next number, and the order of sets, word by word. No condition.
-/
import Derived.Test.YthkolkmcnpafiaaDoorBPure
namespace Go.Proofs.YthkolkmcnpafiaaDoor
namespace Bs

theorem shr_shl (x : Nat) (s k : Nat) : (x / 2 ^ s * 2 ^ s).testBit k = (decide (s ≤ k) && x.testBit k) := by
  rw [Nat.testBit_mul_two_pow]
  by_cases h : s ≤ k
  · rw [decide_eq_true h, Bool.true_and, Bool.true_and, Nat.testBit_div_two_pow]
    congr 1
    omega
  · rw [decide_eq_false h]; rfl
/-- What is asked of the word at hand: its bits from the number n on. -/
def At (r : List Nat) (n i w : Nat) : Prop := w < 18446744073709551616 ∧ ∀ k, k < 64 → w.testBit k = (decide (n ≤ i * 64 + k) && (wd r i).testBit k)
theorem at_first {r : List Nat} (h : Ok r) (n : Nat) : At r n (n / 64) (wd r (n / 64) / 2 ^ (n % 64) * 2 ^ (n % 64)) := by
  refine ⟨Nat.lt_of_le_of_lt (Nat.div_mul_le_self _ _) (wd_lt h _), fun k hk => ?_⟩
  rw [shr_shl]
  congr 1
  exact decide_eq_decide.2 (by omega)
theorem at_later {r : List Nat} (h : Ok r) {n i : Nat} (hi : n / 64 < i) : At r n i (wd r i) :=
  ⟨wd_lt h _, fun k _ => by rw [decide_eq_true (by omega), Bool.true_and]⟩
theorem next_found {r : List Nat} {n i w : Nat} (hi : i < 16) (hlow : ∀ k, n ≤ k → k < i * 64 → has r k = false) (hw : At r n i w) (h0 : w ≠ 0) : next r n = some (i * 64 + Lib.ctz 64 w) := by
  obtain ⟨h1, h2, h3, _⟩ := ctz_bits h0 hw.1
  generalize Lib.ctz 64 w = c at *
  have h2' := hw.2 c h1
  rw [h2, eq_comm, Bool.and_eq_true, decide_eq_true_iff] at h2'
  have hh : ∀ k, k < 64 → has r (i * 64 + k) = (wd r i).testBit k := fun k hk => by rw [has, show (i * 64 + k) / 64 = i by omega, show (i * 64 + k) % 64 = k by omega]
  refine up_eq_some h2'.1 (by omega) (by rw [hh c h1]; exact h2'.2) fun k hk1 hk2 => ?_
  by_cases hk : k < i * 64
  · exact hlow k hk1 hk
  · obtain ⟨j, rfl⟩ : ∃ j, k = i * 64 + j := ⟨k - i * 64, by omega⟩
    have := hw.2 j (by omega)
    rw [h3 j (by omega), decide_eq_true hk1, Bool.true_and] at this
    rw [hh j (by omega)]
    exact this.symm
theorem next_low {r : List Nat} {n i : Nat} (hlow : ∀ k, n ≤ k → k < i * 64 → has r k = false) (hw : At r n i 0) : ∀ k, n ≤ k → k < (i + 1) * 64 → has r k = false := by
  intro k hk1 hk2
  by_cases hk : k < i * 64
  · exact hlow k hk1 hk
  · obtain ⟨j, rfl⟩ : ∃ j, k = i * 64 + j := ⟨k - i * 64, by omega⟩
    have := hw.2 j (by omega)
    rw [Nat.zero_testBit, decide_eq_true hk1, Bool.true_and] at this
    rw [has, show (i * 64 + j) / 64 = i by omega, show (i * 64 + j) % 64 = j by omega]
    exact this.symm
theorem next_no {r : List Nat} {n : Nat} (hlow : ∀ k, n ≤ k → k < 16 * 64 → has r k = false) : next r n = none :=
  up_eq_none fun k h1 h2 => hlow k h1 (by omega)
theorem next_lt {r : List Nat} {n m : Nat} (h : next r n = some m) : n ≤ m ∧ m < 1024 ∧ has r m = true ∧ ∀ k, n ≤ k → k < m → has r k = false := by
  obtain ⟨h1, h2, h3, h4⟩ := up_some h
  exact ⟨h1, by omega, h3, h4⟩
theorem next_none {r : List Nat} (hr : Ok r) {n : Nat} (h : next r n = none) : ∀ k, n ≤ k → has r k = false := fun k hk => by
  by_cases h2 : k < 1024
  · exact up_none h k hk (by omega)
  · exact has_hi hr (by omega)
/-! The order. -/
theorem cmp_same {a b : List Nat} (h : ∀ k, k < 1024 → has a k = has b k) : cmp a b = 0 := by
  unfold cmp
  rw [up_eq_none fun k _ hk => by rw [h k (by omega)]; simp]
theorem cmp_apart {a b : List Nat} {n : Nat} (hn : n < 1024) (hlow : ∀ k, k < n → has a k = has b k) (h : has a n ≠ has b n) : cmp a b = if has a n then -1 else 1 := by
  unfold cmp
  rw [up_eq_some (m := n) (Nat.zero_le _) (by omega) (by simpa using h) fun k _ hk => by rw [hlow k hk]; simp]
theorem apart_word {a b : List Nat} (ha : Ok a) (hb : Ok b) {i : Nat} (hi : i < 16) (hlow : ∀ k, k < i * 64 → has a k = has b k) (h0 : wd a i ^^^ wd b i ≠ 0) :
    cmp a b = if (wd a i).testBit (Lib.ctz 64 (wd a i ^^^ wd b i)) then -1 else 1 := by
  obtain ⟨h1, h2, h3, _⟩ := ctz_bits h0 (xor_lt (wd_lt ha i) (wd_lt hb i))
  generalize Lib.ctz 64 (wd a i ^^^ wd b i) = c at *
  have hh : ∀ (r : List Nat) k, k < 64 → has r (i * 64 + k) = (wd r i).testBit k := fun r k hk => by rw [has, show (i * 64 + k) / 64 = i by omega, show (i * 64 + k) % 64 = k by omega]
  rw [Nat.testBit_xor] at h2
  rw [cmp_apart (n := i * 64 + c) (by omega) ?_ ?_, hh a c h1]
  · intro k hk
    by_cases hk2 : k < i * 64
    · exact hlow k hk2
    · obtain ⟨j, rfl⟩ : ∃ j, k = i * 64 + j := ⟨k - i * 64, by omega⟩
      have := h3 j (by omega)
      rw [Nat.testBit_xor] at this
      rw [hh a j (by omega), hh b j (by omega)]
      cases h5 : (wd a i).testBit j <;> cases h6 : (wd b i).testBit j <;> simp_all
  · rw [hh a c h1, hh b c h1]
    intro e
    rw [e] at h2
    simp at h2
theorem same_word {a b : List Nat} {i : Nat} (hlow : ∀ k, k < i * 64 → has a k = has b k) (h0 : wd a i ^^^ wd b i = 0) : ∀ k, k < (i + 1) * 64 → has a k = has b k := by
  intro k hk
  by_cases hk2 : k < i * 64
  · exact hlow k hk2
  · obtain ⟨j, rfl⟩ : ∃ j, k = i * 64 + j := ⟨k - i * 64, by omega⟩
    have : (wd a i ^^^ wd b i).testBit j = false := by rw [h0]; simp
    rw [Nat.testBit_xor] at this
    rw [has, has, show (i * 64 + j) / 64 = i by omega, show (i * 64 + j) % 64 = j by omega]
    cases h5 : (wd a i).testBit j <;> cases h6 : (wd b i).testBit j <;> simp_all
theorem low_bit {x : Nat} (h0 : x ≠ 0) (hx : x < 18446744073709551616) : x &&& (18446744073709551616 - x) = 2 ^ Lib.ctz 64 x := by
  unfold Lib.ctz
  rw [if_neg h0]
  obtain ⟨m, hm, hk⟩ := Lib.ctzFrom_spec 64 x (by omega) hx
  generalize Lib.ctzFrom 64 x = c at *
  rw [hm] at hx ⊢
  exact Lib.and_neg 64 c m hx
theorem and_pow (x c : Nat) : (x &&& 2 ^ c = 0) ↔ x.testBit c = false := by
  constructor
  · intro h
    have : (x &&& 2 ^ c).testBit c = false := by rw [h]; simp
    rw [Nat.testBit_and, Nat.testBit_two_pow_self] at this
    simpa using this
  · intro h
    apply Nat.eq_of_testBit_eq
    intro j
    rw [Nat.testBit_and, Nat.testBit_two_pow, Nat.zero_testBit]
    by_cases e : c = j
    · subst e; rw [h]; rfl
    · rw [decide_eq_false e]; simp
end Bs
end Go.Proofs.YthkolkmcnpafiaaDoor

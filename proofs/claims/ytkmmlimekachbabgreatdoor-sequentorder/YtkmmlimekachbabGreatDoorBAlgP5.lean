/-
  Sets are a Boolean algebra; their order; their counts: over plain words. No condition.
-/
import Derived.Test.YtkmmlimekachbabGreatDoorBG1
namespace Go.Proofs.YtkmmlimekachbabGreatDoor.Bt
namespace Bs

/-! The order. -/
theorem cmp_case {a b : List Nat} (ha : Ok a) (hb : Ok b) : (a = b ∧ cmp a b = 0) ∨ ∃ n, n < 1024 ∧ (∀ k, k < n → has a k = has b k) ∧ has a n ≠ has b n ∧ cmp a b = if has a n then -1 else 1 := by
  unfold cmp
  cases h : up (fun n => has a n != has b n) 1024 0 with
  | none =>
    refine Or.inl ⟨has_ext ha hb fun n hn => ?_, rfl⟩
    simpa using up_none h n (by omega) (by omega)
  | some n =>
    obtain ⟨_, h2, h3, h4⟩ := up_some h
    exact Or.inr ⟨n, by omega, fun k hk => by simpa using h4 k (by omega) hk, by simpa using h3, rfl⟩
theorem cmp_range (a b : List Nat) : cmp a b = -1 ∨ cmp a b = 0 ∨ cmp a b = 1 := by
  unfold cmp
  split
  · exact Or.inr (Or.inl rfl)
  · split
    · exact Or.inl rfl
    · exact Or.inr (Or.inr rfl)
theorem cmp_turn {a b : List Nat} (ha : Ok a) (hb : Ok b) : cmp a b = -cmp b a := by
  rcases cmp_case ha hb with ⟨rfl, h⟩ | ⟨n, h1, h2, h3, h4⟩
  · rw [h]; rfl
  · rw [h4, cmp_apart h1 (fun k hk => (h2 k hk).symm) (fun e => h3 e.symm)]
    cases h5 : has a n <;> cases h6 : has b n <;> simp_all
theorem cmp_zero {a b : List Nat} (ha : Ok a) (hb : Ok b) : (cmp a b == 0) = decide (a = b) := by
  rcases cmp_case ha hb with ⟨rfl, h⟩ | ⟨n, h1, h2, h3, h4⟩
  · rw [h]; simp
  · have hne : a ≠ b := fun e => h3 (by rw [e])
    rw [h4, decide_eq_false hne]
    cases has a n <;> rfl
theorem cmp_trans {a b c : List Nat} (ha : Ok a) (hb : Ok b) (hc : Ok c) (h1 : cmp a b < 0) (h2 : cmp b c < 0) : cmp a c < 0 := by
  rcases cmp_case ha hb with ⟨rfl, h⟩ | ⟨n, n1, n2, n3, n4⟩
  · omega
  · rcases cmp_case hb hc with ⟨rfl, h⟩ | ⟨m, m1, m2, m3, m4⟩
    · omega
    · have ea : has a n = true := by
        cases h : has a n
        · rw [n4, h] at h1; exact absurd h1 (by decide)
        · rfl
      have eb : has b m = true := by
        cases h : has b m
        · rw [m4, h] at h2; exact absurd h2 (by decide)
        · rfl
      have ebn : has b n = false := by
        cases h : has b n
        · rfl
        · exact absurd (ea.trans h.symm) n3
      have ecm : has c m = false := by
        cases h : has c m
        · rfl
        · exact absurd (eb.trans h.symm) m3
      rcases Nat.lt_trichotomy n m with h | h | h
      · rw [cmp_apart n1 (fun k hk => (n2 k hk).trans (m2 k (by omega))) (by rw [ea, ← m2 n h, ebn]; decide), ea]; decide
      · subst h; rw [eb] at ebn; cases ebn
      · rw [cmp_apart m1 (fun k hk => (n2 k (by omega)).trans (m2 k hk)) (by rw [n2 m h, eb, ecm]; decide), n2 m h, eb]; decide
end Bs
end Go.Proofs.YtkmmlimekachbabGreatDoor.Bt

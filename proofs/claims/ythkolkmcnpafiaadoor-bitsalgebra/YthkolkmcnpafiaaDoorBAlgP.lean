/-
  Sets are a Boolean algebra; their order; their counts: over plain words. No condition.
-/
import Derived.Test.YthkolkmcnpafiaaDoorBWord
namespace Go.Proofs.YthkolkmcnpafiaaDoor
namespace Bs

theorem morgan1 {a b c : List Nat} (ha : Ok a) (hb : Ok b) (hc : Ok c) : meet (minus c a) (minus c b) = minus c (union a b) :=
  has_ext (meet_ok (minus_ok hc ha) (minus_ok hc hb)) (minus_ok hc (union_ok ha hb)) fun n hn => by
    rw [has_meet _ _ hn, has_minus _ ha hn, has_minus _ hb hn, has_minus _ (union_ok ha hb) hn, has_union _ _ hn]
    cases has a n <;> cases has b n <;> cases has c n <;> rfl
theorem morgan2 {a b c : List Nat} (ha : Ok a) (hb : Ok b) (hc : Ok c) : union (minus c a) (minus c b) = minus c (meet a b) :=
  has_ext (union_ok (minus_ok hc ha) (minus_ok hc hb)) (minus_ok hc (meet_ok ha hb)) fun n hn => by
    rw [has_union _ _ hn, has_minus _ ha hn, has_minus _ hb hn, has_minus _ (meet_ok ha hb) hn, has_meet _ _ hn]
    cases has a n <;> cases has b n <;> cases has c n <;> rfl
theorem distrib {a b c : List Nat} (ha : Ok a) (hb : Ok b) (hc : Ok c) : union (meet a b) (meet a c) = meet a (union b c) :=
  has_ext (union_ok (meet_ok ha hb) (meet_ok ha hc)) (meet_ok ha (union_ok hb hc)) fun n hn => by
    rw [has_union _ _ hn, has_meet _ _ hn, has_meet _ _ hn, has_meet _ _ hn, has_union _ _ hn]
    cases has a n <;> cases has b n <;> cases has c n <;> rfl
theorem sub_low {a b : List Nat} (ha : Ok a) (hb : Ok b) : sub (meet a b) a = true := (sub_has (meet_ok ha hb) ha).2 fun n hn h => by
  rw [has_meet _ _ hn] at h
  exact (Bool.and_eq_true _ _ ▸ h).1
theorem sub_up {a b : List Nat} (ha : Ok a) (hb : Ok b) : sub a (union a b) = true := (sub_has ha (union_ok ha hb)).2 fun n hn h => by rw [has_union _ _ hn, h]; rfl
theorem sub_meet {a b : List Nat} (ha : Ok a) (hb : Ok b) : sub a b = decide (meet a b = a) := by
  rw [Bool.eq_iff_iff, decide_eq_true_iff, sub_has ha hb]
  constructor
  · intro h
    refine has_ext (meet_ok ha hb) ha fun n hn => ?_
    rw [has_meet _ _ hn]
    cases h1 : has a n
    · rfl
    · rw [h n hn h1]; rfl
  · intro h n hn h1
    rw [← h, has_meet _ _ hn, Bool.and_eq_true] at h1
    exact h1.2
theorem countP_two (p q : Nat → Bool) : ∀ l : List Nat, l.countP (fun n => p n || q n) + l.countP (fun n => p n && q n) = l.countP p + l.countP q
  | [] => rfl
  | x :: l => by
    have := countP_two p q l
    simp only [List.countP_cons]
    cases p x <;> cases q x <;> simp <;> omega
theorem pop_two (x y : Nat) : pop (x ||| y) + pop (x &&& y) = pop x + pop y := by
  have := countP_two x.testBit y.testBit (List.range 64)
  have e1 : (x ||| y).testBit = fun n => x.testBit n || y.testBit n := funext fun n => Nat.testBit_or x y n
  have e2 : (x &&& y).testBit = fun n => x.testBit n && y.testBit n := funext fun n => Nat.testBit_and x y n
  unfold pop
  rw [e1, e2]
  exact this
theorem count_two {a b : List Nat} (ha : Ok a) (hb : Ok b) : ∀ k, k ≤ 16 → count (union a b) k + count (meet a b) k = count a k + count b k
  | 0, _ => rfl
  | k + 1, hk => by
    have ih := count_two ha hb k (by omega)
    rw [count_step (union_ok ha hb).1 (by omega), count_step (meet_ok ha hb).1 (by omega), count_step ha.1 (by omega), count_step hb.1 (by omega)]
    have h := pop_two (wd a k) (wd b k)
    rw [union, meet, wd_mix _ _ _ _ (show k < 16 by omega), wd_mix _ _ _ _ (show k < 16 by omega), if_pos (by omega), if_pos (by omega)]
    unfold union meet at ih
    show _ + pop (wd a k ||| wd b k) + (_ + pop (wd a k &&& wd b k)) = _
    omega
/-! The order. -/
theorem cmp_case {a b : List Nat} (ha : Ok a) (hb : Ok b) : (a = b ∧ cmp a b = 0) ∨ ∃ n, n < 1024 ∧ (∀ k, k < n → has a k = has b k) ∧ has a n ≠ has b n ∧ cmp a b = if has a n then -1 else 1 := by
  unfold cmp
  cases h : up (fun n => has a n != has b n) 1024 0 with
  | none =>
    refine Or.inl ⟨has_ext ha hb fun n hn => ?_, rfl⟩
    simpa using up_none h n (by omega) (by omega)
  | some n =>
    obtain ⟨_, h2, h3, h4⟩ := up_some h
    exact Or.inr ⟨n, by omega, fun k hk => by simpa using h4 k (by omega) hk, by simpa using h3, rfl⟩
theorem cmp_range (a b : List Nat) : cmp a b = -1 ∨ cmp a b = 0 ∨ cmp a b = 1 := by
  unfold cmp
  split
  · exact Or.inr (Or.inl rfl)
  · split
    · exact Or.inl rfl
    · exact Or.inr (Or.inr rfl)
theorem cmp_turn {a b : List Nat} (ha : Ok a) (hb : Ok b) : cmp a b = -cmp b a := by
  rcases cmp_case ha hb with ⟨rfl, h⟩ | ⟨n, h1, h2, h3, h4⟩
  · rw [h]; rfl
  · rw [h4, cmp_apart h1 (fun k hk => (h2 k hk).symm) (fun e => h3 e.symm)]
    cases h5 : has a n <;> cases h6 : has b n <;> simp_all
theorem cmp_zero {a b : List Nat} (ha : Ok a) (hb : Ok b) : (cmp a b == 0) = decide (a = b) := by
  rcases cmp_case ha hb with ⟨rfl, h⟩ | ⟨n, h1, h2, h3, h4⟩
  · rw [h]; simp
  · have hne : a ≠ b := fun e => h3 (by rw [e])
    rw [h4, decide_eq_false hne]
    cases has a n <;> rfl
theorem cmp_trans {a b c : List Nat} (ha : Ok a) (hb : Ok b) (hc : Ok c) (h1 : cmp a b < 0) (h2 : cmp b c < 0) : cmp a c < 0 := by
  rcases cmp_case ha hb with ⟨rfl, h⟩ | ⟨n, n1, n2, n3, n4⟩
  · omega
  · rcases cmp_case hb hc with ⟨rfl, h⟩ | ⟨m, m1, m2, m3, m4⟩
    · omega
    · have ea : has a n = true := by
        cases h : has a n
        · rw [n4, h] at h1; exact absurd h1 (by decide)
        · rfl
      have eb : has b m = true := by
        cases h : has b m
        · rw [m4, h] at h2; exact absurd h2 (by decide)
        · rfl
      have ebn : has b n = false := by
        cases h : has b n
        · rfl
        · exact absurd (ea.trans h.symm) n3
      have ecm : has c m = false := by
        cases h : has c m
        · rfl
        · exact absurd (eb.trans h.symm) m3
      rcases Nat.lt_trichotomy n m with h | h | h
      · rw [cmp_apart n1 (fun k hk => (n2 k hk).trans (m2 k (by omega))) (by rw [ea, ← m2 n h, ebn]; decide), ea]; decide
      · subst h; rw [eb] at ebn; cases ebn
      · rw [cmp_apart m1 (fun k hk => (n2 k (by omega)).trans (m2 k hk)) (by rw [n2 m h, eb, ecm]; decide), n2 m h, eb]; decide
end Bs
end Go.Proofs.YthkolkmcnpafiaaDoor

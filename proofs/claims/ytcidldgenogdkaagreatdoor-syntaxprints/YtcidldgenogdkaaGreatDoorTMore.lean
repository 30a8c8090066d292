/-
  How many tokens a text has, how long they are, and the last of them. Plain; nothing of the program is named here. No condition.
-/
import Derived.Test.YtcidldgenogdkaaGreatDoorFirstP
namespace Go.Proofs.YtcidldgenogdkaaGreatDoor.Tk

theorem sign_text (l : List UInt8) : ∀ gs : List (List UInt8), (∀ g ∈ gs, g.length ≤ 31) → (signIn gs l).1.2.1.length ≤ 31
  | [], _ => by simp [signIn, bad]
  | g :: gs, h => by
    unfold signIn
    split
    · exact h g (by simp)
    · exact sign_text l gs fun x hx => h x (by simp [hx])
theorem meaning_text (r : Nat) : (meaning r).2.length ≤ 31 := by
  unfold meaning
  repeat' split
  all_goals simp
theorem cut_text (l : List UInt8) : (cut l).1.2.1.length ≤ 31 := by
  unfold cut
  split
  · simp
  · split
    · unfold cutName
      split
      · simp [bad]
      · show (List.take _ _).length ≤ 31
        rw [List.length_take]
        omega
    · split
      · unfold cutNum
        split <;> simp [bad]
      · split
        · exact sign_text _ _ (by decide)
        · unfold cutRune
          split
          · simp [bad]
          · exact meaning_text _
theorem scanF_all : ∀ (f : Nat) (s : List UInt8) (o : Nat) (a : List (Tok × Nat)), o ≤ s.length → s.length < o + f → (∀ t ∈ a, t.1.2.1.length ≤ 31) →
    (scanF f s o a).1.length ≤ a.length + (s.length - o) + 1 ∧ (∀ t ∈ (scanF f s o a).1, t.1.2.1.length ≤ 31) ∧ ((scanF f s o a).2.1 = 0 → ∃ pre o', (scanF f s o a).1 = pre ++ [(((0 : Int), [], (0 : Int)), o')])
  | 0, s, o, a, ho, hf, _ => absurd hf (by omega)
  | f + 1, s, o, a, ho, hf, ha => by
    have hsk := skip_le _ (s.drop o) (Nat.le_refl _)
    rw [List.length_drop] at hsk
    rw [scanF_step]
    have ha2 : ∀ t ∈ a ++ [((cut (s.drop (o + skip (s.drop o)))).1, o + skip (s.drop o))], t.1.2.1.length ≤ 31 := by
      intro t ht
      rcases List.mem_append.1 ht with h | h
      · exact ha t h
      · simp only [List.mem_singleton] at h
        subst h
        exact cut_text _
    by_cases h1 : (cut (s.drop (o + skip (s.drop o)))).2.2 ≠ 0
    · rw [if_pos h1]
      exact ⟨by simp, by simp, fun h => absurd h h1⟩
    · rw [if_neg h1]
      by_cases h2 : (cut (s.drop (o + skip (s.drop o)))).1.1 = 0
      · rw [if_pos h2]
        refine ⟨by simp, ha2, fun _ => ⟨a, o + skip (s.drop o), ?_⟩⟩
        rw [cut_end _ (Decidable.not_not.1 h1) h2]
        rfl
      · rw [if_neg h2]
        have hl : s.drop (o + skip (s.drop o)) ≠ [] := fun e => h2 (by rw [e]; rfl)
        have hg := cut_good _ hl (Decidable.not_not.1 h1)
        have hle := hg.2.1.le
        rw [List.length_drop] at hle
        have hlt : o + skip (s.drop o) < s.length := by
          rcases Nat.lt_or_ge (o + skip (s.drop o)) s.length with h3 | h3
          · exact h3
          · exact absurd (List.drop_eq_nil_of_le h3) hl
        have h := scanF_all f s (o + skip (s.drop o) + (cut (s.drop (o + skip (s.drop o)))).2.1) _ (by omega) (by omega) ha2
        refine ⟨?_, h.2.1, h.2.2⟩
        have h3 := h.1
        rw [List.length_append, List.length_singleton] at h3
        omega
theorem scan_all (s : List UInt8) : (scan s).1.length ≤ s.length + 1 ∧ (∀ t ∈ (scan s).1, t.1.2.1.length ≤ 31) ∧ ((scan s).2.1 = 0 → ∃ pre o', (scan s).1 = pre ++ [(((0 : Int), [], (0 : Int)), o')]) := by
  have h := scanF_all (s.length + 1) s 0 [] (by omega) (by omega) (by simp)
  refine ⟨?_, h.2.1, h.2.2⟩
  have h1 := h.1
  simp only [List.length_nil, Nat.zero_add, Nat.sub_zero] at h1
  exact h1
end Go.Proofs.YtcidldgenogdkaaGreatDoor.Tk

/-
  Plain mathematics of what is below a formula: rising, closed. No condition.
-/
import Derived.Test.YtcidldgenogdkaaGreatDoorSText
import Derived.Test.YtcidldgenogdkaaGreatDoorFBelow
namespace Go.Proofs.YtcidldgenogdkaaGreatDoor.Pr
open Go.RowKit
open Fm (Nd)

theorem getD_at {t : List Nd} {i : Nat} (h : i < t.length) : t.getD i Fm.z = t[i] := by rw [List.getD_eq_getElem?_getD, List.getElem?_eq_getElem h]; rfl
theorem mark_mono (t : List Nd) : ∀ (n : Nat) (f : Nat → Bool) (k : Nat), f k = true → Fm.mark t n f k = true
  | 0, f, k, h => h
  | n + 1, f, k, h => by
    rw [mark_step]
    refine mark_mono t n _ k ?_
    split
    · unfold Fm.upd
      split
      · rfl
      · split
        · rfl
        · exact h
    · exact h
theorem mark_high {t : List Nd} (hT : Fm.Ok t) : ∀ (n : Nat) (f : Nat → Bool) (k : Nat), n ≤ t.length → n ≤ k → Fm.mark t n f k = f k
  | 0, f, k, _, _ => rfl
  | n + 1, f, k, hn, hk => by
    rw [mark_step, mark_high hT n _ k (by omega) (by omega)]
    split
    · rename_i h
      simp only [Bool.and_eq_true] at h
      rw [getD_at (by omega)] at h ⊢
      have hp := Fm.ok_parts hT (by omega) h.2
      unfold Fm.upd
      rw [if_neg (by omega), if_neg (by omega)]
    · rfl
theorem mark_closed {t : List Nd} (hT : Fm.Ok t) : ∀ (n : Nat) (f : Nat → Bool) (hn : n ≤ t.length) (k : Nat) (hk : k < n), Fm.mark t n f k = true → Fm.jn (t[k]'(by omega)).k = true → Fm.mark t n f (t[k]'(by omega)).l.toNat = true ∧ Fm.mark t n f (t[k]'(by omega)).r.toNat = true
  | 0, f, _, k, hk, _, _ => absurd hk (by omega)
  | n + 1, f, hn, k, hk, hm, hj => by
    rw [mark_step] at hm ⊢
    by_cases hkn : k < n
    · exact mark_closed hT n _ (by omega) k hkn hm hj
    · obtain rfl : k = n := by omega
      rw [mark_high hT k _ k (by omega) (Nat.le_refl _)] at hm
      have hp := Fm.ok_parts hT (i := k) (by omega) hj
      have hfk : f k = true := by
        split at hm
        · rw [getD_at (by omega)] at hm
          unfold Fm.upd at hm
          rw [if_neg (by omega), if_neg (by omega)] at hm
          exact hm
        · exact hm
      rw [getD_at (by omega), hfk, hj]
      simp only [Bool.and_self, if_true]
      refine ⟨mark_mono t k _ _ ?_, mark_mono t k _ _ ?_⟩
      · unfold Fm.upd; split <;> simp
      · unfold Fm.upd; simp
theorem below_closed {t : List Nd} (hT : Fm.Ok t) {i k : Nat} (hi : i < t.length) (hk : k ∈ Fm.below t i) (hkl : k < t.length) (hj : Fm.jn (t[k]).k = true) : (t[k]).l.toNat ∈ Fm.below t i ∧ (t[k]).r.toNat ∈ Fm.below t i := by
  unfold Fm.below at *
  simp only [List.mem_filter, List.mem_range] at hk ⊢
  have h := mark_closed hT (i + 1) _ (by omega) k hk.1 hk.2 hj
  have hp := Fm.ok_parts hT hkl hj
  exact ⟨⟨by omega, h.1⟩, by omega, h.2⟩
theorem below_le {t : List Nd} {i k : Nat} (hk : k ∈ Fm.below t i) : k ≤ i := by
  unfold Fm.below at hk
  simp only [List.mem_filter, List.mem_range] at hk
  omega
theorem below_last (t : List Nd) (i : Nat) : ∃ pre, Fm.below t i = pre ++ [i] := by
  have h : Fm.mark t (i + 1) (Fm.upd (fun _ => false) i) i = true := mark_mono t _ _ _ (by simp [Fm.upd])
  refine ⟨(List.range i).filter (Fm.mark t (i + 1) (Fm.upd (fun _ => false) i)), ?_⟩
  unfold Fm.below
  rw [List.range_succ, List.filter_append]
  simp [h]
theorem below_sorted (t : List Nd) (i : Nat) : (Fm.below t i).Pairwise (· < ·) := by
  unfold Fm.below
  exact List.Pairwise.filter _ List.pairwise_lt_range
/-- Of two that are below, the smaller one comes first. -/
theorem below_first (t : List Nd) (i : Nat) {a : Nat} (ha : a ∈ Fm.below t i) {k : Nat} (hk : k < (Fm.below t i).length) (hlt : a < (Fm.below t i)[k]) : a ∈ (Fm.below t i).take k := by
  obtain ⟨j, hj, rfl⟩ := List.mem_iff_getElem.1 ha
  have hjk : j < k := by
    rcases Nat.lt_or_ge j k with h | h
    · exact h
    · rcases Nat.lt_or_ge k j with h2 | h2
      · have := List.pairwise_iff_getElem.1 (below_sorted t i) k j hk hj h2
        omega
      · obtain rfl : j = k := by omega
        omega
  rw [List.mem_iff_getElem]
  exact ⟨j, by simp; omega, by simp⟩
end Go.Proofs.YtcidldgenogdkaaGreatDoor.Pr

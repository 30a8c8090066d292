/-
  The document's calls part and text: for every formula of a table whose text is not too long. No other condition.
-/
import Derived.Test.YtcidldgenogdkaaGreatDoorRLvl
namespace Go.Proofs.YtcidldgenogdkaaGreatDoor
open Go.RowKit Go.Maps
open Fm (Nd)

namespace Rp
def ptx (t : List Nd) (i least : Int) : List UInt8 := if lev t i < least then 40 :: (Pr.text t i ++ [41]) else Pr.text t i
section
variable {t : List Nd}
theorem ok_bot (hT : Fm.Ok t) {i : Int} (hi : Fm.has t i = true) (hk : (nodeOf t i).k = 2) : nodeOf t i = Fm.bot := by
  obtain ⟨k, rfl, h, hn⟩ := Pr.node_at hi
  rw [hn] at hk ⊢
  have := Fm.check_shaped (hT.chk k h)
  unfold Fm.shaped at this
  rw [if_neg (by omega), if_pos hk] at this
  generalize t[k] = n at *
  obtain ⟨nk, ns, nl, nr⟩ := n
  simp only at hk this
  subst hk
  simp at this
  obtain ⟨⟨h1, h2⟩, h3⟩ := this
  subst h2 h3
  unfold Fm.bot
  congr
theorem node_inj (hT : Fm.Ok t) {i j : Int} (hi : Fm.has t i = true) (hj : Fm.has t j = true) (h : nodeOf t i = nodeOf t j) : i = j := by
  obtain ⟨a, rfl, ha, hna⟩ := Pr.node_at hi
  obtain ⟨b, rfl, hb, hnb⟩ := Pr.node_at hj
  rw [hna, hnb] at h
  have : a = b := (List.getElem_inj hT.nd).1 h
  omega
theorem lvl_lev (i : Int) : Pr.lvl t i = if lev t i = 4 then 4 else lev t i + 1 := by
  unfold Pr.lvl lev Pr.isNot Pr.isFalse
  by_cases h3 : (nodeOf t i).k = 3
  · simp [h3]
  · by_cases h4 : (nodeOf t i).k = 4
    · simp [h4]
    · by_cases h5 : (nodeOf t i).k = 5
      · by_cases hr : (nodeOf t (nodeOf t i).r).k = 2
        · by_cases hl : (nodeOf t (nodeOf t i).l).k = 2 <;> simp [h5, hr, hl]
        · simp [h5, hr]
      · simp [h3, h4, h5]
theorem lev_le (i : Int) : lev t i ≤ 4 ∧ 0 ≤ lev t i := by unfold lev; repeat' split; all_goals omega
theorem enc_ptx (i : Int) {least : Int} (hl : least ≤ 3) : Pr.textOf t (Pr.enc t i (least + 1)) = ptx t i least := by
  unfold Pr.enc ptx
  rw [lvl_lev i]
  have := lev_le (t := t) i
  by_cases h : lev t i < least
  · rw [if_neg, if_pos h]
    · simp [Pr.textOf, Pr.pc]
    · split <;> omega
  · rw [if_pos, if_neg h]
    · simp [Pr.textOf, Pr.pc]
    · split <;> omega
/-- A text, as the document has it. -/
theorem text_r (hT : Fm.Ok t) {i : Int} (hi : Fm.has t i = true) : Pr.text t i =
    if (nodeOf t i).k = 1 then (nodeOf t i).s.data.toList else if (nodeOf t i).k = 2 then [102, 97, 108, 115, 101] else if lev t i = 4 then [116, 114, 117, 101] else if lev t i = 3 then 126 :: ptx t (nodeOf t i).l 3
    else ptx t (nodeOf t i).l (need (nodeOf t i).k).1 ++ ((Pr.sign (nodeOf t i).k).data.toList ++ ptx t (nodeOf t i).r (need (nodeOf t i).k).2) := by
  rw [Pr.text_eq hT hi]
  have hll := lvl_lev (t := t) i
  have hle := lev_le (t := t) i
  unfold Pr.pcs
  by_cases h1 : (nodeOf t i).k = 1
  · rw [if_pos h1, if_pos h1]; simp [Pr.textOf, Pr.pc]
  rw [if_neg h1, if_neg h1]
  by_cases h2 : (nodeOf t i).k = 2
  · rw [if_pos h2, if_pos h2]; rfl
  rw [if_neg h2, if_neg h2]
  have hj : Fm.jn (nodeOf t i).k = true := by
    obtain ⟨k, rfl, h, hn⟩ := Pr.node_at hi
    rw [hn] at h1 h2 ⊢
    rcases Fm.ok_kind hT h with e | e | e
    · exact absurd e h1
    · exact absurd e h2
    · exact e
  obtain ⟨⟨hl1, hl2⟩, hr1, hr2⟩ := parts_has hT hi hj
  by_cases h5 : (nodeOf t i).k = 5
  · have hnot : Pr.isNot t (nodeOf t i) = decide ((nodeOf t (nodeOf t i).r).k = 2) := by unfold Pr.isNot Pr.isFalse; rw [h5]; rw [Bool.eq_iff_iff]; simp
    have htrue : Pr.isTrue t (nodeOf t i) = decide ((nodeOf t (nodeOf t i).r).k = 2 ∧ (nodeOf t (nodeOf t i).l).k = 2) := by
      unfold Pr.isTrue
      rw [hnot, Bool.eq_iff_iff]
      simp only [Bool.and_eq_true, decide_eq_true_eq, beq_iff_eq]
      refine ⟨fun h => ⟨h.1, by rw [h.2]; exact h.1⟩, fun h => ⟨h.1, ?_⟩⟩
      exact node_inj hT hl1 hr1 ((ok_bot hT hl1 h.2).trans (ok_bot hT hr1 h.1).symm)
    have hlv : lev t i = if (nodeOf t (nodeOf t i).r).k = 2 then (if (nodeOf t (nodeOf t i).l).k = 2 then 4 else 3) else 0 := by unfold lev; rw [if_neg (by omega), if_neg (by omega), if_pos h5]
    rw [htrue, hnot]
    by_cases hr : (nodeOf t (nodeOf t i).r).k = 2
    · by_cases hl : (nodeOf t (nodeOf t i).l).k = 2
      · rw [if_pos hr, if_pos hl] at hlv
        rw [if_pos (by simp [hr, hl]), if_pos hlv]; rfl
      · rw [if_pos hr, if_neg hl] at hlv
        rw [if_neg (by simp [hl]), if_pos (by simp [hr]), if_neg (by omega), if_pos hlv]
        rw [show ∀ x l, Pr.textOf t (x :: l) = Pr.pc t x ++ Pr.textOf t l from fun x l => by simp [Pr.textOf], show (4 : Int) = 3 + 1 from rfl, enc_ptx _ (by omega)]
        rfl
    · rw [if_neg hr] at hlv
      rw [if_neg (by simp [hr]), if_neg (by simp [hr]), if_pos h5, if_neg (by omega), if_neg (by omega), Pr.textOf_app]
      rw [show ∀ x l, Pr.textOf t (x :: l) = Pr.pc t x ++ Pr.textOf t l from fun x l => by simp [Pr.textOf]]
      rw [hlv, if_neg (by omega)] at hll
      rw [hll, h5, show (0 : Int) + 1 + 1 = 1 + 1 from rfl, enc_ptx _ (by omega), enc_ptx _ (by omega)]
      rfl
  · have hnot : Pr.isNot t (nodeOf t i) = false := by unfold Pr.isNot; simp [h5]
    have htrue : Pr.isTrue t (nodeOf t i) = false := by unfold Pr.isTrue; rw [hnot]; rfl
    have h34 : (nodeOf t i).k = 3 ∨ (nodeOf t i).k = 4 := by unfold Fm.jn at hj; simp at hj; omega
    rw [htrue, hnot, if_neg (by simp), if_neg (by simp), if_neg h5, Pr.textOf_app]
    rw [show ∀ x l, Pr.textOf t (x :: l) = Pr.pc t x ++ Pr.textOf t l from fun x l => by simp [Pr.textOf]]
    rcases h34 with h | h
    · have hlv : lev t i = 2 := by unfold lev; rw [if_pos h]
      rw [hlv, if_neg (by omega)] at hll
      rw [if_neg (by omega), if_neg (by omega), hll, h, enc_ptx _ (by omega), enc_ptx _ (by omega)]
      rfl
    · have hlv : lev t i = 1 := by unfold lev; rw [if_neg (by omega), if_pos h]
      rw [hlv, if_neg (by omega)] at hll
      rw [if_neg (by omega), if_neg (by omega), hll, h, enc_ptx _ (by omega), enc_ptx _ (by omega)]
      rfl
theorem ptx_len (t : List Nd) (i least : Int) : (ptx t i least).length = (Pr.text t i).length + (rnd t i least).toNat := by
  unfold ptx rnd
  split <;> simp
end
end Rp
end Go.Proofs.YtcidldgenogdkaaGreatDoor

/-
  Plain mathematics: the text of a formula is cut into its tokens. No condition.
-/
import Derived.Test.YtcidldgenogdkaaGreatDoorBCut
import Derived.Test.YtcidldgenogdkaaGreatDoorGBa
namespace Go.Proofs.YtcidldgenogdkaaGreatDoor
open Fm (Nd)

namespace Bk
section
variable {t : List Nd}
theorem cn_pe (x : List P) (b : Bool) : cn (pe x b) = cn x := by
  cases b with
  | true => rfl
  | false =>
    show cn ((3, Sx.sOpen) :: (x ++ [(3, Sx.sShut)])) = _
    rw [cn_cons, cn_app]
    simp [cn, ct]
theorem de_le (n : Nat) (b : Bool) : de n b ≤ n + 1 := by cases b <;> simp [de]
theorem dp_le : ∀ (f : Nat) (i : Int), dp t f i ≤ cn (pk t f i)
  | 0, _ => Nat.zero_le _
  | f + 1, i => by
    unfold dp pk
    by_cases h1 : (nodeOf t i).k = 1
    · rw [if_pos h1]; exact Nat.zero_le _
    rw [if_neg h1, if_neg h1]
    by_cases h2 : (nodeOf t i).k = 2
    · rw [if_pos h2]; exact Nat.zero_le _
    rw [if_neg h2, if_neg h2]
    by_cases ht : Pr.isTrue t (nodeOf t i) = true
    · rw [if_pos ht]; exact Nat.zero_le _
    rw [if_neg ht, if_neg ht]
    have hl := dp_le f (nodeOf t i).l
    have hr := dp_le f (nodeOf t i).r
    by_cases hn : Pr.isNot t (nodeOf t i) = true
    · rw [if_pos hn, if_pos hn, cn_cons, cn_pe]
      have := de_le (dp t f (nodeOf t i).l) (decide (4 ≤ Pr.lvl t (nodeOf t i).l))
      have hc : (if ct (3, Sx.sNot) = true then 1 else 0) = 1 := rfl
      omega
    rw [if_neg hn, if_neg hn]
    by_cases h5 : (nodeOf t i).k = 5
    · rw [if_pos h5, if_pos h5, cn_app, cn_cons, cn_pe]
      have := de_le (dp t f (nodeOf t i).l) (decide (2 ≤ Pr.lvl t (nodeOf t i).l))
      have hc : (if ct (3, Sx.sImp) = true then 1 else 0) = 1 := rfl
      omega
    · rw [if_neg h5, if_neg h5, cn_app, cn_cons, cn_pe, cn_pe]
      have := de_le (dp t f (nodeOf t i).l) (decide (Pr.lvl t i ≤ Pr.lvl t (nodeOf t i).l))
      have := de_le (dp t f (nodeOf t i).r) (decide (Pr.lvl t i + 1 ≤ Pr.lvl t (nodeOf t i).r))
      have hc : (if ct (3, wsg (nodeOf t i).k) = true then 1 else 0) = 1 := by
        unfold wsg
        split
        · rfl
        · split <;> rfl
      omega
theorem pe_cut {j : Int} {x : List P} (H : ∀ r ts, Soft r → Toks r ts → Toks (Pr.text t j ++ r) (x.map tkOf ++ ts)) (m : Int) {r : List UInt8} {ts : List Tk.Tok} (hr : Soft r) (h : Toks r ts) : Toks (Pr.textOf t (Pr.enc t j m) ++ r) ((pe x (decide (m ≤ Pr.lvl t j))).map tkOf ++ ts) := by
  unfold Pr.enc
  by_cases hm : m ≤ Pr.lvl t j
  · rw [if_pos hm, decide_eq_true hm, Pr.textOf_one]; exact H r ts hr h
  · rw [if_neg hm, decide_eq_false hm]
    have e : Pr.textOf t [.tx ⟨#[40]⟩, .pt j, .tx ⟨#[41]⟩] ++ r = 40 :: ([] ++ (Pr.text t j ++ (41 :: ([] ++ r)))) := by simp [Pr.textOf, Pr.pc]
    have e2 : (pe x false).map tkOf ++ ts = (3, [40], 0) :: (x.map tkOf ++ ((3, [41], 0) :: ts)) := by
      show ((3, Sx.sOpen) :: (x ++ [(3, Sx.sShut)])).map tkOf ++ ts = _
      simp [tkOf]
    rw [e, e2]
    have h2 := Toks.sign h (c := 41) (x := []) (by decide) (by decide) (cut_shut r)
    exact Toks.sign (H _ _ (soft_cons _ (by decide)) h2) (c := 40) (x := []) (by decide) (by decide) (cut_open _)
theorem beg_of {c : UInt8} (h : Fm.isL c = true) : Tk.isBeg c = true := by
  unfold Fm.isL at h
  unfold Tk.isBeg
  simp only [Bool.or_eq_true, Bool.and_eq_true, decide_eq_true_eq, UInt8.le_iff_toNat_le] at h ⊢
  have e1 : (97 : UInt8).toNat = 97 := rfl
  have e2 : (122 : UInt8).toNat = 122 := rfl
  have e3 : (65 : UInt8).toNat = 65 := rfl
  have e4 : (90 : UInt8).toNat = 90 := rfl
  omega
theorem in_of {c : UInt8} (h : Fm.inN c = true) : Tk.isIn c = true := by
  unfold Fm.inN at h
  unfold Tk.isIn Tk.isDig
  simp only [Bool.or_eq_true, Bool.and_eq_true, decide_eq_true_eq, UInt8.le_iff_toNat_le, beq_iff_eq] at h ⊢
  rcases h with ((h | h) | h) | h
  · exact Or.inl (Or.inl (beg_of h))
  · have e1 : (48 : UInt8).toNat = 48 := rfl
    have e2 : (57 : UInt8).toNat = 57 := rfl
    exact Or.inl (Or.inr (by omega))
  · subst h; exact Or.inl (Or.inl (by decide))
  · subst h; exact Or.inr rfl
theorem word_cut {s : List UInt8} (hw : Fm.word s = true) {r : List UInt8} {ts : List Tk.Tok} (hr : Soft r) (h : Toks r ts) : Toks (s ++ r) ((1, s, 0) :: ts) := by
  cases s with
  | nil => exact absurd hw (by decide)
  | cons c x =>
    unfold Fm.word at hw
    simp only [Bool.and_eq_true, decide_eq_true_eq, List.headD_cons, List.tail_cons, List.length_cons] at hw
    obtain ⟨⟨⟨⟨_, h2⟩, h3⟩, h4⟩, _⟩ := hw
    exact Toks.name h hr (beg_of h3) (List.all_eq_true.2 fun y hy => in_of (List.all_eq_true.1 h4 y hy)) h2
theorem cut_text (hT : Fm.Ok t) : ∀ (f : Nat) (i : Int), Fm.has t i = true → i.toNat < f → ∀ r ts, Soft r → Toks r ts → Toks (Pr.text t i ++ r) ((pk t f i).map tkOf ++ ts)
  | 0, _, _, h => absurd h (by omega)
  | f + 1, i, hi, hf => by
    intro r ts hr h
    have h0 := Fm.has_iff.1 hi
    rw [Pr.text_eq hT hi]
    unfold Pr.pcs pk
    by_cases h1 : (nodeOf t i).k = 1
    · rw [if_pos h1, if_pos h1, Pr.textOf_one]
      exact word_cut (word_at hT hi h1) hr h
    rw [if_neg h1, if_neg h1]
    by_cases h2 : (nodeOf t i).k = 2
    · rw [if_pos h2, if_pos h2, Pr.textOf_one]
      exact Toks.name (c := 102) (x := [97, 108, 115, 101]) h hr (by decide) (by decide) (by decide)
    rw [if_neg h2, if_neg h2]
    obtain ⟨hj, hs⟩ := Rp.kind_at hT hi h1 h2
    obtain ⟨⟨hl1, hl2⟩, hr1, hr2⟩ := parts_has hT hi hj
    have hl0 := Fm.has_iff.1 hl1
    have hr0 := Fm.has_iff.1 hr1
    have ihl := cut_text hT f (nodeOf t i).l hl1 (by omega)
    have ihr := cut_text hT f (nodeOf t i).r hr1 (by omega)
    by_cases ht : Pr.isTrue t (nodeOf t i) = true
    · rw [if_pos ht, if_pos ht, Pr.textOf_one]
      exact Toks.name (c := 116) (x := [114, 117, 101]) h hr (by decide) (by decide) (by decide)
    rw [if_neg ht, if_neg ht]
    by_cases hnot : Pr.isNot t (nodeOf t i) = true
    · rw [if_pos hnot, if_pos hnot]
      have e : Pr.textOf t (.tx ⟨#[126]⟩ :: Pr.enc t (nodeOf t i).l 4) ++ r = 126 :: ([] ++ (Pr.textOf t (Pr.enc t (nodeOf t i).l 4) ++ r)) := by simp [Pr.textOf, Pr.pc]
      rw [e]
      exact Toks.sign (pe_cut ihl 4 hr h) (c := 126) (x := []) (by decide) (by decide) (cut_not _)
    rw [if_neg hnot, if_neg hnot]
    have hnot' : Pr.isNot t (nodeOf t i) = false := by simpa using hnot
    have key : ∀ (a b : List Pr.Pc) (g : ByteArray), Pr.textOf t (a ++ (.tx g :: b)) ++ r = Pr.textOf t a ++ (g.data.toList ++ (Pr.textOf t b ++ r)) := fun a b g => by simp [Pr.textOf, Pr.pc]
    have key2 : ∀ (a b : List P) (g : List UInt8), (a ++ ((3, g) :: b)).map tkOf ++ ts = a.map tkOf ++ ((3, g, 0) :: (b.map tkOf ++ ts)) := fun a b g => by simp [tkOf]
    by_cases h5 : (nodeOf t i).k = 5
    · rw [if_pos h5, if_pos h5, key, key2, h5]
      have hlvl : Pr.lvl t i = 1 := by unfold Pr.lvl; rw [if_neg (by omega), if_neg (by omega), if_pos ⟨h5, hnot'⟩]
      rw [hlvl]
      have hR := pe_cut ihr 1 hr h
      rw [decide_eq_true (lvl_le (t := t) (nodeOf t i).r).2] at hR
      have hS := Toks.sign hR.blank (c := 45) (x := [62]) (by decide) (by decide) (cut_imp _)
      exact pe_cut ihl 2 (soft_cons _ (by decide)) hS.blank
    · rw [if_neg h5, if_neg h5, key, key2]
      have hR := pe_cut ihr (Pr.lvl t i + 1) hr h
      have h34 : (nodeOf t i).k = 3 ∨ (nodeOf t i).k = 4 := by unfold Fm.jn at hj; simp at hj; omega
      rcases h34 with h3 | h4
      · have hS := Toks.sign hR.blank (c := 38) (x := []) (by decide) (by decide) (cut_and _)
        rw [h3]
        exact pe_cut ihl (Pr.lvl t i) (soft_cons _ (by decide)) hS.blank
      · have hS := Toks.sign hR.blank (c := 124) (x := []) (by decide) (by decide) (cut_or _)
        rw [h4]
        exact pe_cut ihl (Pr.lvl t i) (soft_cons _ (by decide)) hS.blank
end
end Bk
end Go.Proofs.YtcidldgenogdkaaGreatDoor

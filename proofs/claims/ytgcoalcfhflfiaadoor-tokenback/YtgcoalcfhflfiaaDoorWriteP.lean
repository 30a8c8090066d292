/-
  What Write answers, as the document says it. Plain; nothing of the program is named here but the functions on lists that its texts lean on. No condition.
-/
import Derived.Test.YtgcoalcfhflfiaaDoorTName
import Derived.Lib.ItoaNum
set_option linter.unusedSimpArgs false
namespace Go.Proofs.YtgcoalcfhflfiaaDoor
open Go.RowKit

theorem dec_all : ∀ (k u : Nat), u ≤ k → ∀ c ∈ Lib.decDigits u, Tk.isDig c = true := by
  intro k
  induction k with
  | zero =>
    intro u hu c hc
    obtain rfl : u = 0 := by omega
    rw [Lib.decDigits_one (by omega)] at hc
    simp at hc
    subst hc
    decide
  | succ k ih =>
    intro u hu c hc
    by_cases h : u < 10
    · rw [Lib.decDigits_one h] at hc
      simp at hc
      subst hc
      have : (UInt8.ofNat (48 + u)).toNat = 48 + u := by simp [UInt8.toNat_ofNat']; omega
      simp [Tk.isDig, this]
      omega
    · rw [Lib.decDigits, dif_neg h] at hc
      rcases List.mem_append.1 hc with h1 | h1
      · exact ih (u / 10) (by omega) c h1
      · simp at h1
        subst h1
        have : (UInt8.ofNat (48 + u % 10)).toNat = 48 + u % 10 := by simp [UInt8.toNat_ofNat']; omega
        simp [Tk.isDig, this]
        omega
theorem itoa_cases (v : Int) : (∃ r, Lib.itoa v = 45 :: r) ∨ (0 ≤ v ∧ Lib.itoa v = Lib.decDigits v.toNat ∧ ∀ c ∈ Lib.itoa v, Tk.isDig c = true) := by
  by_cases h : v < 0
  · exact Or.inl ⟨_, by rw [Lib.itoa, if_pos h]⟩
  · have e : Lib.itoa v = Lib.decDigits v.toNat := by rw [Lib.itoa, if_neg h]
    exact Or.inr ⟨by omega, e, fun c hc => by rw [e] at hc; exact dec_all _ _ (Nat.le_refl _) c hc⟩
theorem run_full (f : UInt8 → Bool) : ∀ (l : List UInt8), (∀ c ∈ l, f c = true) → Tk.run f l = l.length
  | [], _ => rfl
  | c :: r, h => by rw [Tk.run_cons, if_pos (h c (by simp)), run_full f r fun d hd => h d (by simp [hd])]; rfl
theorem cut_kinds (l : List UInt8) : (Tk.cut l).1.1 = 0 ∨ (Tk.cut l).1.1 = 1 ∨ (Tk.cut l).1.1 = 2 ∨ (Tk.cut l).1.1 = 3 := by
  cases l with
  | nil => exact Or.inl rfl
  | cons c r =>
    rw [cut_cons]
    split
    · unfold Tk.cutName; split <;> simp [Tk.bad]
    · split
      · unfold Tk.cutNum; split <;> simp [Tk.bad]
      · split
        · unfold Tk.cutSign
          have : ∀ gs : List (List UInt8), (Tk.signIn gs (c :: r)).1.1 = 0 ∨ (Tk.signIn gs (c :: r)).1.1 = 3 := by
            intro gs
            induction gs with
            | nil => exact Or.inl rfl
            | cons g gs ih =>
              unfold Tk.signIn
              split
              · exact Or.inr rfl
              · exact ih
          rcases this Tk.signs with h | h
          · exact Or.inl h
          · exact Or.inr (Or.inr (Or.inr h))
        · unfold Tk.cutRune
          split
          · simp [Tk.bad]
          · simp only
            unfold Tk.meaning
            repeat' split
            all_goals simp
theorem sign_text (l : List UInt8) : ∀ gs : List (List UInt8), (Tk.signIn gs l).2.2 = 0 → (Tk.signIn gs l).2.1 = (Tk.signIn gs l).1.2.1.length
  | [], h => absurd h (by simp [Tk.signIn, Tk.bad])
  | g :: gs, h => by
    unfold Tk.signIn at h ⊢
    split
    · rfl
    · rename_i hp
      rw [if_neg hp] at h
      exact sign_text l gs h
theorem meaning_low (r : Nat) (c : UInt8) (t : List UInt8) (h : (Tk.meaning r).2 = c :: t) : c.toNat < 128 := by
  unfold Tk.meaning at h
  repeat' split at h
  all_goals first | (cases h; done) | (simp only [List.cons.injEq] at h; rw [← h.1]; decide)
/-- A text that is cut into a token of just this text, or number, is cut whole. -/
theorem cut_whole (t : Tk.Tok) (h : (Tk.cut (rawText t)).2.2 = 0) (he : (Tk.cut (rawText t)).1 = t) : (Tk.cut (rawText t)).2.1 = (rawText t).length := by
  cases hr : rawText t with
  | nil => rfl
  | cons c r =>
    rw [hr] at h he
    rw [cut_cons] at h he ⊢
    have hraw : t.1 ≠ 2 → t.2.1 = c :: r := fun h2 => by
      unfold rawText at hr
      rw [if_neg h2] at hr
      exact hr
    cases hb : Tk.isBeg c with
    | true =>
      rw [hb] at h he
      simp only [if_true] at h he ⊢
      unfold Tk.cutName at h he ⊢
      by_cases h31 : 31 < Tk.run Tk.isIn (c :: r)
      · rw [if_pos h31] at h; exact absurd h (by simp [Tk.bad])
      · rw [if_neg h31] at he ⊢
        have ht : t.2.1 = (c :: r).take (Tk.run Tk.isIn (c :: r)) := by rw [← he]
        have h1 : t.1 = 1 := by rw [← he]
        rw [hraw (by rw [h1]; decide)] at ht
        have hl := congrArg List.length ht
        rw [List.length_take] at hl
        have := Tk.run_le Tk.isIn (c :: r)
        show Tk.run Tk.isIn (c :: r) = _
        omega
    | false =>
      rw [hb] at h he
      simp only [Bool.false_eq_true, if_false] at h he ⊢
      cases hd : Tk.isDig c with
      | true =>
        rw [hd] at h he
        simp only [if_true] at h he ⊢
        unfold Tk.cutNum at h he ⊢
        by_cases hbad : 999999999 < Tk.val 0 ((c :: r).take (Tk.run Tk.isDig (c :: r))) ∨ ((c :: r)[0]? = some 48 ∧ 1 < Tk.run Tk.isDig (c :: r)) ∨ Tk.inAt (c :: r) (Tk.run Tk.isDig (c :: r)) = true
        · rw [if_pos hbad] at h; exact absurd h (by simp [Tk.bad])
        · rw [if_neg hbad] at he ⊢
          have h2 : t.1 = 2 := by rw [← he]
          unfold rawText at hr
          rw [if_pos h2] at hr
          show Tk.run Tk.isDig (c :: r) = _
          rcases itoa_cases t.2.2 with ⟨r', e⟩ | ⟨_, _, e⟩
          · rw [hr] at e
            simp only [List.cons.injEq] at e
            rw [e.1] at hd
            exact absurd hd (by decide)
          · rw [hr] at e
            exact run_full _ _ e
      | false =>
        rw [hd] at h he
        simp only [Bool.false_eq_true, if_false] at h he ⊢
        by_cases h128 : c.toNat < 128
        · rw [if_pos h128] at h he ⊢
          have h3 := (Tk.sign_good (c :: r) Tk.signs Tk.signs_ok h).2.2
          have e := sign_text (c :: r) Tk.signs h
          unfold Tk.cutSign at he ⊢
          rw [he] at e h3
          rw [e, hraw (by rw [h3]; decide)]
        · rw [if_neg h128] at h he ⊢
          unfold Tk.cutRune at h he ⊢
          by_cases hz : (Tk.meaning (Tk.dec (c :: r)).1).1 = 0
          · rw [if_pos hz] at h; exact absurd h (by simp [Tk.bad])
          · rw [if_neg hz] at he ⊢
            exfalso
            have h1 : t.1 ≠ 2 := by
              rw [← he]
              simp only
              unfold Tk.meaning
              repeat' split
              all_goals simp
            have ht : t.2.1 = (Tk.meaning (Tk.dec (c :: r)).1).2 := by rw [← he]
            rw [hraw h1] at ht
            exact h128 (meaning_low _ _ _ ht.symm)
/-- What the document's Write answers. -/
def wrtR (t : Tk.Tok) : List UInt8 × Int :=
  if t.1 = 0 ∨ t.1 = 1 ∨ t.1 = 3 ∨ t.1 = 2 then
    if (Tk.cut (if t.1 = 0 then [] else rawText t)).2.2 = 0 ∧ (Tk.cut (if t.1 = 0 then [] else rawText t)).2.1 = (if t.1 = 0 then [] else rawText t).length ∧ (Tk.cut (if t.1 = 0 then [] else rawText t)).1 = t then ((if t.1 = 0 then [] else rawText t), 0) else ([], 2)
  else ([], 2)
theorem wrtR_eq (t : Tk.Tok) : wrtR t = wrt t := by
  unfold wrtR wrt
  by_cases h0 : t.1 = 0
  · rw [if_pos (Or.inl h0), if_pos h0]
    have hraw : rawText t = t.2.1 := by unfold rawText; rw [if_neg (by rw [h0]; decide)]
    rw [hraw]
    obtain ⟨k, x, n⟩ := t
    simp only at h0 ⊢
    subst h0
    cases x with
    | nil =>
      by_cases hn : n = 0
      · subst hn; rfl
      · rw [if_neg, if_neg]
        · rintro ⟨_, h⟩
          have h2 : ((0, [], 0) : Tk.Tok) = (0, [], n) := h
          simp at h2; exact hn h2.symm
        · rintro ⟨_, _, h⟩
          have h2 : ((0, [], 0) : Tk.Tok) = (0, [], n) := h
          simp at h2; exact hn h2.symm
    | cons c r =>
      rw [if_neg, if_neg]
      · rintro ⟨h1, h2⟩
        exact (Tk.cut_good (c :: r) (by simp) h1).2.2 (by rw [h2])
      · rintro ⟨_, _, h⟩
        have h2 : ((0, [], 0) : Tk.Tok) = (0, c :: r, n) := h
        simp at h2
  · by_cases hk : t.1 = 1 ∨ t.1 = 3 ∨ t.1 = 2
    · rw [if_pos (Or.inr hk), if_neg h0]
      by_cases h : (Tk.cut (rawText t)).2.2 = 0 ∧ (Tk.cut (rawText t)).1 = t
      · rw [if_pos h, if_pos ⟨h.1, cut_whole t h.1 h.2, h.2⟩]
      · rw [if_neg h, if_neg (fun h' => h ⟨h'.1, h'.2.2⟩)]
    · rw [if_neg (by rintro (h | h); exact h0 h; exact hk h), if_neg]
      rintro ⟨_, h⟩
      have := cut_kinds (rawText t)
      rw [h] at this
      rcases this with h | h | h | h
      · exact h0 h
      · exact hk (Or.inl h)
      · exact hk (Or.inr (Or.inr h))
      · exact hk (Or.inr (Or.inl h))
theorem wrt_code (t : Tk.Tok) : (wrt t).2 = 0 ∨ ((wrt t).2 = 2 ∧ (wrt t).1 = []) := by
  unfold wrt
  split
  · exact Or.inl rfl
  · exact Or.inr ⟨rfl, rfl⟩
end Go.Proofs.YtgcoalcfhflfiaaDoor

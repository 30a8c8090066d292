/-
  What stands ahead of a fault is a text without one. Plain; nothing of the program is named here. No condition.
-/
import Derived.Test.YtcidldgenogdkaaGreatDoorGTa
set_option linter.unusedSimpArgs false
namespace Go.Proofs.YtcidldgenogdkaaGreatDoor.Tk

/-- A row that begins with a whole rune when it is cut off behind it begins with that rune. -/
theorem dec_ext (x : List UInt8) (r n : Nat) (h : dec (x.take n) = (r, n)) (hr : r ≠ 65533) : dec x = (r, n) := by
  have hb : ∀ k, k < n → byt (x.take n) k = byt x k := fun k hk => byt_take x n k hk
  have hc : ∀ k, k < n → con (x.take n) k = con x k := fun k hk => con_take x n k hk
  have hn : 1 ≤ n := by have := dec_pos (x.take n); rw [h] at this; exact this
  have h4 : n ≤ 4 := by have := dec_le4 (x.take n); rw [h] at this; exact this
  have h0 := hb 0 (by omega)
  rcases (show n = 1 ∨ n = 2 ∨ n = 3 ∨ n = 4 by omega) with rfl | rfl | rfl | rfl
  · revert h
    unfold dec decF
    rw [h0]
    repeat' split
    all_goals simp_all
    all_goals (intros; omega)
  · have h1 := hb 1 (by omega)
    have c1 := hc 1 (by omega)
    revert h
    unfold dec decF
    rw [h0, h1, c1]
    repeat' split
    all_goals simp_all
  · have h1 := hb 1 (by omega)
    have c1 := hc 1 (by omega)
    have h2 := hb 2 (by omega)
    have c2 := hc 2 (by omega)
    revert h
    unfold dec decF
    rw [h0, h1, c1, h2, c2]
    repeat' split
    all_goals simp_all
  · have h1 := hb 1 (by omega)
    have c1 := hc 1 (by omega)
    have h2 := hb 2 (by omega)
    have c2 := hc 2 (by omega)
    have h3 := hb 3 (by omega)
    have c3 := hc 3 (by omega)
    rw [← h]
    unfold dec decF
    rw [h0, h1, c1, h2, c2, h3, c3]
theorem dec_take_ge (l : List UInt8) (m : Nat) (hm : (dec l).2 ≤ m) (hr : (dec l).1 ≠ 65533) : dec (l.take m) = dec l := by
  have h := dec_self l
  have e : (l.take m).take (dec l).2 = l.take (dec l).2 := by rw [List.take_take, Nat.min_eq_left hm]
  rw [← e] at h
  exact dec_ext (l.take m) (dec l).1 (dec l).2 h hr
theorem run_take (f : UInt8 → Bool) : ∀ (l : List UInt8) (m : Nat), run f (l.take m) = min m (run f l)
  | [], m => by simp [run]
  | c :: r, 0 => by simp [run]
  | c :: r, m + 1 => by
    rw [List.take_succ_cons, run_cons, run_cons]
    split
    · rw [run_take f r m]; omega
    · omega
theorem skip_take : ∀ (k : Nat) (l : List UInt8) (m : Nat), l.length ≤ k → skip l ≤ m → skip (l.take m) = skip l
  | _, [], m, _, _ => by simp
  | 0, c :: r, m, h, _ => absurd h (by simp)
  | k + 1, c :: r, m, h, hm => by
    simp only [List.length_cons] at h
    cases hb : isBlank c with
    | true =>
      rw [skip_blank c r hb] at hm ⊢
      obtain ⟨m', rfl⟩ : ∃ m', m = m' + 1 := ⟨m - 1, by omega⟩
      rw [List.take_succ_cons, skip_blank c _ hb, skip_take k r m' (by omega) (by omega)]
    | false =>
      by_cases hc : c.toNat = 35
      · have h1 := run_hash c r hc
        rw [skip_hash c r hc] at hm ⊢
        obtain ⟨m', rfl⟩ : ∃ m', m = m' + 1 := ⟨m - 1, by omega⟩
        rw [List.take_succ_cons, skip_hash c _ hc, ← List.take_succ_cons, run_take, Nat.min_eq_right (by omega), List.drop_take]
        rw [skip_take k _ _ (by rw [List.length_drop, List.length_cons]; omega) (by omega)]
      · rw [skip_else c r hb hc]
        cases m with
        | zero => rfl
        | succ m => rw [List.take_succ_cons, skip_else c _ hb hc]
theorem pre_take (g l : List UInt8) (m : Nat) (h : g.length ≤ m) : g.isPrefixOf (l.take m) = g.isPrefixOf l := by
  rw [Bool.eq_iff_iff, List.isPrefixOf_iff_prefix, List.isPrefixOf_iff_prefix]
  constructor
  · intro hp
    exact hp.trans (List.take_prefix m l)
  · intro hp
    rw [List.prefix_iff_eq_take] at hp ⊢
    rw [List.take_take, Nat.min_eq_left h]
    exact hp
theorem pre_take_le (g l : List UInt8) (m : Nat) (h : g.isPrefixOf l = false) : g.isPrefixOf (l.take m) = false := by
  cases hp : g.isPrefixOf (l.take m) with
  | false => rfl
  | true =>
    rw [List.isPrefixOf_iff_prefix] at hp
    have := List.isPrefixOf_iff_prefix.2 (hp.trans (List.take_prefix m l))
    rw [h] at this; cases this
theorem sign_take (l : List UInt8) (m : Nat) : ∀ gs : List (List UInt8), (signIn gs l).2.2 = 0 → (signIn gs l).2.1 ≤ m → signIn gs (l.take m) = signIn gs l
  | [], h, _ => absurd h (by simp [signIn, bad])
  | g :: gs, h, hm => by
    cases hp : g.isPrefixOf l with
    | true =>
      unfold signIn at h hm ⊢
      rw [if_pos hp] at h hm ⊢
      rw [if_pos (by rw [pre_take g l m hm]; exact hp)]
    | false =>
      unfold signIn at h hm ⊢
      rw [if_neg (by rw [hp]; simp)] at h hm
      rw [if_neg (by rw [pre_take_le g l m hp]; simp), if_neg (by rw [hp]; simp)]
      exact sign_take l m gs h hm
/-- A token is cut the same out of what is cut off behind it. -/
theorem cut_take (l : List UInt8) (m : Nat) (h : (cut l).2.2 = 0) (hm : (cut l).2.1 ≤ m) (hl : l ≠ []) : cut (l.take m) = cut l := by
  have hg := cut_good l hl h
  cases l with
  | nil => exact absurd rfl hl
  | cons c r =>
    obtain ⟨m', rfl⟩ : ∃ m', m = m' + 1 := ⟨m - 1, by omega⟩
    have e : ∀ x : Cut, (cut ((c :: r).take (m' + 1)) = x) = ((if isBeg c = true then cutName ((c :: r).take (m' + 1)) else if isDig c = true then cutNum ((c :: r).take (m' + 1)) else if c.toNat < 128 then cutSign ((c :: r).take (m' + 1)) else cutRune ((c :: r).take (m' + 1))) = x) := fun x => rfl
    have e2 : cut (c :: r) = (if isBeg c = true then cutName (c :: r) else if isDig c = true then cutNum (c :: r) else if c.toNat < 128 then cutSign (c :: r) else cutRune (c :: r)) := rfl
    rw [e]
    rw [e2] at h hm ⊢
    cases hb : isBeg c with
    | true =>
      rw [hb] at h hm
      simp only [if_true] at h hm ⊢
      unfold cutName at h hm ⊢
      by_cases h31 : 31 < run isIn (c :: r)
      · rw [if_pos h31] at h; exact absurd h (by simp [bad])
      · rw [if_neg h31] at hm ⊢
        rw [run_take, Nat.min_eq_right hm, if_neg h31, List.take_take, Nat.min_eq_left hm]
    | false =>
      rw [hb] at h hm
      simp only [Bool.false_eq_true, if_false] at h hm ⊢
      cases hd : isDig c with
      | true =>
        rw [hd] at h hm
        simp only [if_true] at h hm ⊢
        unfold cutNum at h hm ⊢
        by_cases hbad : 999999999 < val 0 ((c :: r).take (run isDig (c :: r))) ∨ ((c :: r)[0]? = some 48 ∧ 1 < run isDig (c :: r)) ∨ inAt (c :: r) (run isDig (c :: r)) = true
        · rw [if_pos hbad] at h; exact absurd h (by simp [bad])
        · rw [if_neg hbad] at hm ⊢
          have hm' : run isDig (c :: r) ≤ m' + 1 := hm
          rw [run_take, Nat.min_eq_right hm', List.take_take, Nat.min_eq_left hm', if_neg]
          rintro (h1 | h1 | h1)
          · exact hbad (Or.inl h1)
          · exact hbad (Or.inr (Or.inl ⟨by have := h1.1; rw [List.take_succ_cons] at this; exact this, h1.2⟩))
          · refine hbad (Or.inr (Or.inr ?_))
            unfold inAt at h1 ⊢
            rw [List.getElem?_take] at h1
            split at h1
            · cases h1
            · rename_i d hd2
              split at hd2
              · rw [hd2]; exact h1
              · cases hd2
      | false =>
        rw [hd] at h hm
        simp only [Bool.false_eq_true, if_false] at h hm ⊢
        by_cases h128 : c.toNat < 128
        · rw [if_pos h128] at h hm ⊢
          rw [if_pos h128]
          exact sign_take (c :: r) (m' + 1) signs h hm
        · rw [if_neg h128] at h hm ⊢
          rw [if_neg h128]
          unfold cutRune at h hm ⊢
          by_cases hz : (meaning (dec (c :: r)).1).1 = 0
          · rw [if_pos hz] at h; exact absurd h (by simp [bad])
          · rw [if_neg hz] at hm
            have hne : (dec (c :: r)).1 ≠ 65533 := by
              intro h'; rw [h'] at hz; exact hz rfl
            rw [dec_take_ge (c :: r) (m' + 1) hm hne]
theorem cut_end (l : List UInt8) (h : (cut l).2.2 = 0) (hk : (cut l).1.1 = 0) : l = [] := by
  by_cases hl : l = []
  · exact hl
  · exact absurd hk (cut_good l hl h).2.2
/-- Fuel does not matter where there is enough. -/
theorem scanF_fuel : ∀ (f g : Nat) (s : List UInt8) (o : Nat) (a : List (Tok × Nat)), s.length < o + f → s.length < o + g → o ≤ s.length → scanF f s o a = scanF g s o a
  | 0, _, s, o, a, h, _, ho => absurd h (by omega)
  | _ + 1, 0, s, o, a, _, h, ho => absurd h (by omega)
  | f + 1, g + 1, s, o, a, h, h', ho => by
    rw [scanF_step, scanF_step]
    by_cases h1 : (cut (s.drop (o + skip (s.drop o)))).2.2 ≠ 0
    · rw [if_pos h1, if_pos h1]
    · rw [if_neg h1, if_neg h1]
      by_cases h2 : (cut (s.drop (o + skip (s.drop o)))).1.1 = 0
      · rw [if_pos h2, if_pos h2]
      · rw [if_neg h2, if_neg h2]
        have hl : s.drop (o + skip (s.drop o)) ≠ [] := fun e => h2 (by rw [e]; rfl)
        have hg := cut_good _ hl (Decidable.not_not.1 h1)
        have hle := hg.2.1.le
        rw [List.length_drop] at hle
        have hlt : o + skip (s.drop o) < s.length := by
          rcases Nat.lt_or_ge (o + skip (s.drop o)) s.length with h3 | h3
          · exact h3
          · exact absurd (List.drop_eq_nil_of_le h3) hl
        exact scanF_fuel f g s _ _ (by omega) (by omega) (by omega)
/-- WHAT STANDS AHEAD OF A FAULT. -/
theorem scanF_first : ∀ (f : Nat) (s : List UInt8) (o : Nat) (a a' : List (Tok × Nat)), o ≤ s.length → s.length < o + f → (scanF f s o a).2.1 ≠ 0 →
    o ≤ (scanF f s o a).2.2 ∧ (scanF f s o a).2.2 ≤ s.length ∧ (scanF f (s.take (scanF f s o a).2.2) o a').2.1 = 0
  | 0, s, o, a, a', ho, hf, _ => absurd hf (by omega)
  | f + 1, s, o, a, a', ho, hf, he => by
    have hsk := skip_le _ (s.drop o) (Nat.le_refl _)
    rw [List.length_drop] at hsk
    rw [scanF_step] at he ⊢
    by_cases h1 : (cut (s.drop (o + skip (s.drop o)))).2.2 ≠ 0
    · rw [if_pos h1] at he ⊢
      refine ⟨by simp only; omega, by simp only; omega, ?_⟩
      simp only
      rw [scanF_step]
      have e1 : (s.take (o + skip (s.drop o))).drop o = (s.drop o).take (skip (s.drop o)) := by rw [List.drop_take, Nat.add_sub_cancel_left]
      rw [e1, skip_take _ (s.drop o) _ (Nat.le_refl _) (Nat.le_refl _)]
      have e2 : (s.take (o + skip (s.drop o))).drop (o + skip (s.drop o)) = [] := List.drop_eq_nil_of_le (by rw [List.length_take]; omega)
      rw [e2, if_neg (by decide), if_pos (show (cut []).1.1 = 0 from rfl)]
    · rw [if_neg h1] at he ⊢
      by_cases h2 : (cut (s.drop (o + skip (s.drop o)))).1.1 = 0
      · rw [if_pos h2] at he; exact absurd rfl he
      · rw [if_neg h2] at he ⊢
        have hl : s.drop (o + skip (s.drop o)) ≠ [] := fun e => h2 (by rw [e]; rfl)
        have h1' := Decidable.not_not.1 h1
        have hg := cut_good _ hl h1'
        have hle := hg.2.1.le
        rw [List.length_drop] at hle
        have hlt : o + skip (s.drop o) < s.length := by
          rcases Nat.lt_or_ge (o + skip (s.drop o)) s.length with h3 | h3
          · exact h3
          · exact absurd (List.drop_eq_nil_of_le h3) hl
        generalize hcc : cut (s.drop (o + skip (s.drop o))) = cc at *
        generalize ha2 : a ++ [(cc.1, o + skip (s.drop o))] = a2 at *
        have ih := scanF_first f s (o + skip (s.drop o) + cc.2.1) a2 (a' ++ [(cc.1, o + skip (s.drop o))]) (by omega) (by omega) he
        generalize scanF f s (o + skip (s.drop o) + cc.2.1) a2 = res at *
        obtain ⟨i1, i2, i3⟩ := ih
        refine ⟨by omega, i2, ?_⟩
        rw [scanF_step]
        have e1 : (s.take res.2.2).drop o = (s.drop o).take (res.2.2 - o) := List.drop_take
        rw [e1, skip_take _ (s.drop o) _ (Nat.le_refl _) (by omega)]
        have e2 : (s.take res.2.2).drop (o + skip (s.drop o)) = (s.drop (o + skip (s.drop o))).take (res.2.2 - (o + skip (s.drop o))) := List.drop_take
        rw [e2, cut_take _ _ (by rw [hcc]; exact h1') (by rw [hcc]; omega) hl, hcc, if_neg (by rw [h1']; simp), if_neg h2]
        exact i3
theorem scan_first (s : List UInt8) (h : (scan s).2.1 ≠ 0) : (scan s).2.2 ≤ s.length ∧ (scan (s.take (scan s).2.2)).2.1 = 0 := by
  have := scanF_first (s.length + 1) s 0 [] [] (by omega) (by omega) h
  refine ⟨this.2.1, ?_⟩
  have h3 := this.2.2
  have hl : (s.take (scan s).2.2).length ≤ s.length := by rw [List.length_take]; omega
  rw [scanF_fuel (s.length + 1) ((s.take (scan s).2.2).length + 1) _ 0 [] (by unfold scan at hl; omega) (by unfold scan at hl ⊢; omega) (by omega)] at h3
  exact h3
end Go.Proofs.YtcidldgenogdkaaGreatDoor.Tk
/-
  How many tokens a text has, how long they are, and the last of them. Plain; nothing of the program is named here. No condition.
-/
namespace Go.Proofs.YtcidldgenogdkaaGreatDoor.Tk

theorem sign_text (l : List UInt8) : ∀ gs : List (List UInt8), (∀ g ∈ gs, g.length ≤ 31) → (signIn gs l).1.2.1.length ≤ 31
  | [], _ => by simp [signIn, bad]
  | g :: gs, h => by
    unfold signIn
    split
    · exact h g (by simp)
    · exact sign_text l gs fun x hx => h x (by simp [hx])
theorem meaning_text (r : Nat) : (meaning r).2.length ≤ 31 := by
  unfold meaning
  repeat' split
  all_goals simp
theorem cut_text (l : List UInt8) : (cut l).1.2.1.length ≤ 31 := by
  unfold cut
  split
  · simp
  · split
    · unfold cutName
      split
      · simp [bad]
      · show (List.take _ _).length ≤ 31
        rw [List.length_take]
        omega
    · split
      · unfold cutNum
        split <;> simp [bad]
      · split
        · exact sign_text _ _ (by decide)
        · unfold cutRune
          split
          · simp [bad]
          · exact meaning_text _
theorem scanF_all : ∀ (f : Nat) (s : List UInt8) (o : Nat) (a : List (Tok × Nat)), o ≤ s.length → s.length < o + f → (∀ t ∈ a, t.1.2.1.length ≤ 31) →
    (scanF f s o a).1.length ≤ a.length + (s.length - o) + 1 ∧ (∀ t ∈ (scanF f s o a).1, t.1.2.1.length ≤ 31) ∧ ((scanF f s o a).2.1 = 0 → ∃ pre o', (scanF f s o a).1 = pre ++ [(((0 : Int), [], (0 : Int)), o')])
  | 0, s, o, a, ho, hf, _ => absurd hf (by omega)
  | f + 1, s, o, a, ho, hf, ha => by
    have hsk := skip_le _ (s.drop o) (Nat.le_refl _)
    rw [List.length_drop] at hsk
    rw [scanF_step]
    have ha2 : ∀ t ∈ a ++ [((cut (s.drop (o + skip (s.drop o)))).1, o + skip (s.drop o))], t.1.2.1.length ≤ 31 := by
      intro t ht
      rcases List.mem_append.1 ht with h | h
      · exact ha t h
      · simp only [List.mem_singleton] at h
        subst h
        exact cut_text _
    by_cases h1 : (cut (s.drop (o + skip (s.drop o)))).2.2 ≠ 0
    · rw [if_pos h1]
      exact ⟨by simp, by simp, fun h => absurd h h1⟩
    · rw [if_neg h1]
      by_cases h2 : (cut (s.drop (o + skip (s.drop o)))).1.1 = 0
      · rw [if_pos h2]
        refine ⟨by simp, ha2, fun _ => ⟨a, o + skip (s.drop o), ?_⟩⟩
        rw [cut_end _ (Decidable.not_not.1 h1) h2]
        rfl
      · rw [if_neg h2]
        have hl : s.drop (o + skip (s.drop o)) ≠ [] := fun e => h2 (by rw [e]; rfl)
        have hg := cut_good _ hl (Decidable.not_not.1 h1)
        have hle := hg.2.1.le
        rw [List.length_drop] at hle
        have hlt : o + skip (s.drop o) < s.length := by
          rcases Nat.lt_or_ge (o + skip (s.drop o)) s.length with h3 | h3
          · exact h3
          · exact absurd (List.drop_eq_nil_of_le h3) hl
        have h := scanF_all f s (o + skip (s.drop o) + (cut (s.drop (o + skip (s.drop o)))).2.1) _ (by omega) (by omega) ha2
        refine ⟨?_, h.2.1, h.2.2⟩
        have h3 := h.1
        rw [List.length_append, List.length_singleton] at h3
        omega
theorem scan_all (s : List UInt8) : (scan s).1.length ≤ s.length + 1 ∧ (∀ t ∈ (scan s).1, t.1.2.1.length ≤ 31) ∧ ((scan s).2.1 = 0 → ∃ pre o', (scan s).1 = pre ++ [(((0 : Int), [], (0 : Int)), o')]) := by
  have h := scanF_all (s.length + 1) s 0 [] (by omega) (by omega) (by simp)
  refine ⟨?_, h.2.1, h.2.2⟩
  have h1 := h.1
  simp only [List.length_nil, Nat.zero_add, Nat.sub_zero] at h1
  exact h1
end Go.Proofs.YtcidldgenogdkaaGreatDoor.Tk

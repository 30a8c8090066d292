/-
  Each token, each blank and each comment is whole runes; a scan ends. Plain; nothing of the program is named here. No condition.
-/
import Derived.Test.YtcidldgenogdkaaGreatDoorTCut
set_option linter.unusedSimpArgs false
namespace Go.Proofs.YtcidldgenogdkaaGreatDoor.Tk

/-- A piece of n bytes at the beginning of l: it is there, is whole runes, and taken by itself has the same runes. -/
structure Good (l : List UInt8) (n : Nat) : Prop where
  le : n ≤ l.length
  bnd : Bnd l n
  same : ∀ p, go (l.take n) n p = go l n p
theorem Good.ascii (l : List UInt8) (n : Nat) (hn : n ≤ l.length) (h : ∀ c ∈ l.take n, c.toNat < 128) : Good l n :=
  ⟨hn, Bnd.ascii n l hn h, fun p => go_take_ascii l n p h⟩
theorem Good.cut (l : List UInt8) (n : Nat) (hn : n ≤ l.length) (h : con l n = false) : Good l n :=
  ⟨hn, Bnd.cut n n l (Nat.le_refl _) hn h, fun p => go_take_cut l n p h⟩
theorem Good.rune (l : List UInt8) (hl : l ≠ []) : Good l (dec l).2 := ⟨dec_le l hl, Bnd.rune l hl, fun p => go_take_rune l p hl⟩
theorem isDig_lt {c : UInt8} (h : isDig c = true) : c.toNat < 128 := by
  simp only [isDig, Bool.and_eq_true, decide_eq_true_eq] at h; omega
theorem isBeg_lt {c : UInt8} (h : isBeg c = true) : c.toNat < 128 := by
  simp only [isBeg, Bool.or_eq_true, Bool.and_eq_true, decide_eq_true_eq] at h; omega
theorem isIn_lt {c : UInt8} (h : isIn c = true) : c.toNat < 128 := by
  simp only [isIn, Bool.or_eq_true, decide_eq_true_eq] at h
  rcases h with (h | h) | h
  · exact isBeg_lt h
  · exact isDig_lt h
  · omega
theorem all_run (f : UInt8 → Bool) (l : List UInt8) : ∀ c ∈ l.take (run f l), f c = true := by
  rw [take_run]
  intro c hc
  exact List.all_takeWhile (p := f) (l := l) |> List.all_eq_true.1 |> fun h => h c hc
theorem Good.run (f : UInt8 → Bool) (hf : ∀ c, f c = true → c.toNat < 128) (l : List UInt8) : Good l (run f l) :=
  Good.ascii l _ (run_le f l) fun c hc => hf c (all_run f l c hc)
theorem run_stop (f : UInt8 → Bool) : ∀ (l : List UInt8) (c : UInt8), l[Tk.run f l]? = some c → f c = false
  | [], c, h => by simp at h
  | a :: r, c, h => by
    rw [run_cons] at h
    cases ha : f a with
    | true =>
      rw [ha, if_pos rfl, List.getElem?_cons_succ] at h
      exact run_stop f r c h
    | false =>
      rw [ha] at h
      simp at h
      subst h
      exact ha
theorem Good.comment (l : List UInt8) : Good l (Tk.run (fun c => c != 10) l) := by
  refine Good.cut l _ (run_le _ l) ?_
  cases h : l[Tk.run (fun c => c != 10) l]? with
  | none =>
    have : l.length ≤ Tk.run (fun c => c != 10) l := by simpa using h
    have h2 : ¬ Tk.run (fun c => c != 10) l < l.length := by omega
    simp [con, h2]
  | some c =>
    have := run_stop _ l c h
    have hc : c = 10 := by simpa using this
    subst hc
    simp [con, byt, List.getD, h]
theorem Good.blank (c : UInt8) (r : List UInt8) (h : isBlank c = true) : Good (c :: r) 1 :=
  Good.ascii _ 1 (by simp) fun d hd => by
    simp at hd
    subst hd
    simp only [isBlank, Bool.or_eq_true, decide_eq_true_eq] at h
    omega
theorem sign_good (l : List UInt8) : ∀ (gs : List (List UInt8)), (∀ g ∈ gs, g ≠ [] ∧ ∀ c ∈ g, c.toNat < 128) → (signIn gs l).2.2 = 0 → 1 ≤ (signIn gs l).2.1 ∧ Good l (signIn gs l).2.1 ∧ (signIn gs l).1.1 = 3
  | [], _, h => absurd h (by simp [signIn, bad])
  | g :: gs, H, h => by
    unfold signIn at h ⊢
    split
    · rename_i hp
      have hp' := List.isPrefixOf_iff_prefix.1 hp
      have hg := H g (by simp)
      refine ⟨?_, Good.ascii l _ hp'.length_le ?_, rfl⟩
      · have := List.length_pos_iff.2 hg.1
        exact this
      · show ∀ c ∈ l.take g.length, _
        rw [← List.prefix_iff_eq_take.1 hp']
        exact hg.2
    · rename_i hp
      rw [if_neg hp] at h
      exact sign_good l gs (fun g hg => H g (by simp [hg])) h
theorem signs_ok : ∀ g ∈ signs, g ≠ [] ∧ ∀ c ∈ g, c.toNat < 128 := by decide
theorem cut_good (l : List UInt8) (hl : l ≠ []) (h : (cut l).2.2 = 0) : 1 ≤ (cut l).2.1 ∧ Good l (cut l).2.1 ∧ (cut l).1.1 ≠ 0 := by
  cases l with
  | nil => exact absurd rfl hl
  | cons c r =>
    unfold cut at h ⊢
    simp only at h ⊢
    split at h
    · rename_i hb
      rw [if_pos hb]
      have hin : isIn c = true := by simp [isIn, hb]
      unfold cutName at h ⊢
      split at h
      · exact absurd h (by simp [bad])
      · rename_i h31
        rw [if_neg h31]
        refine ⟨?_, Good.run isIn (fun c => isIn_lt) _, by simp⟩
        show 1 ≤ Tk.run isIn (c :: r)
        rw [run_cons, if_pos hin]
        omega
    · rename_i hb
      rw [if_neg hb]
      split at h
      · rename_i hd
        rw [if_pos hd]
        unfold cutNum at h ⊢
        split at h
        · exact absurd h (by simp [bad])
        · rename_i hn
          rw [if_neg hn]
          refine ⟨?_, Good.run isDig (fun c => isDig_lt) _, by simp⟩
          show 1 ≤ Tk.run isDig (c :: r)
          rw [run_cons, if_pos hd]
          omega
      · rename_i hd
        rw [if_neg hd]
        split at h
        · rename_i hc
          rw [if_pos hc]
          have := sign_good (c :: r) signs signs_ok h
          exact ⟨this.1, this.2.1, by unfold cutSign; rw [this.2.2]; decide⟩
        · rename_i hc
          rw [if_neg hc]
          unfold cutRune at h ⊢
          split at h
          · exact absurd h (by simp [bad])
          · rename_i hm
            rw [if_neg hm]
            exact ⟨dec_pos _, Good.rune _ hl, hm⟩
theorem skip_bnd : ∀ (m : Nat) (l : List UInt8), l.length ≤ m → Bnd l (skip l)
  | _, [], _ => Bnd.nil _
  | 0, c :: r, h => absurd h (by simp)
  | m + 1, c :: r, h => by
    simp only [List.length_cons] at h
    cases hb : isBlank c with
    | true =>
      rw [skip_blank c r hb]
      exact (Good.blank c r hb).bnd.add (skip_bnd m r (by omega))
    | false =>
      by_cases hc : c.toNat = 35
      · rw [skip_hash c r hc]
        have h1 := run_hash c r hc
        exact (Good.comment (c :: r)).bnd.add (skip_bnd m _ (by rw [List.length_drop, List.length_cons]; omega))
      · rw [skip_else c r hb hc]; exact Bnd.nil _
/-- Where a scan that stands at o goes on. -/
theorem scanF_step (f : Nat) (s : List UInt8) (o : Nat) (a : List (Tok × Nat)) : scanF (f + 1) s o a =
    if (cut (s.drop (o + skip (s.drop o)))).2.2 ≠ 0 then ([], (cut (s.drop (o + skip (s.drop o)))).2.2, o + skip (s.drop o))
    else if (cut (s.drop (o + skip (s.drop o)))).1.1 = 0 then (a ++ [((cut (s.drop (o + skip (s.drop o)))).1, o + skip (s.drop o))], 0, 0)
    else scanF f s (o + skip (s.drop o) + (cut (s.drop (o + skip (s.drop o)))).2.1) (a ++ [((cut (s.drop (o + skip (s.drop o)))).1, o + skip (s.drop o))]) := rfl
end Go.Proofs.YtcidldgenogdkaaGreatDoor.Tk

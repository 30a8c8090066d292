/-
  Runes of logic, told by their bytes: as the model decodes them. Plain; nothing of the program is named here. No condition.
-/
import Derived.Test.YtgcoalcfhflfiaaDoorFirstP
set_option linter.unusedSimpArgs false
namespace Go.Proofs.YtgcoalcfhflfiaaDoor.Tk

/-- A rune of logic: its bytes, kind and text. -/
def specials : List (List UInt8 × Int × List UInt8) := [([194, 172], 3, [126]), ([226, 136, 167], 3, [38]), ([226, 136, 168], 3, [124]), ([226, 134, 146], 3, [45, 62]), ([226, 134, 148], 3, [60, 45, 62]), ([226, 138, 162], 3, [124, 45]), ([226, 137, 164], 3, [60, 61]), ([226, 138, 164], 1, [116, 114, 117, 101]), ([226, 138, 165], 1, [102, 97, 108, 115, 101])]
def specIn : List (List UInt8 × Int × List UInt8) → List UInt8 → Cut
  | [], l => signIn signs l
  | g :: r, l => if g.1.isPrefixOf l then ((g.2.1, g.2.2, 0), g.1.length, 0) else specIn r l
theorem dec_two (l : List UInt8) (r : Nat) (h : (dec l).1 = r) (h1 : 128 ≤ r) (h2 : r < 2048) : 1 < l.length ∧ byt l 0 = 192 + r / 64 ∧ byt l 1 = 128 + r % 64 := by
  have hc : con l 1 = true → 1 < l.length ∧ 128 ≤ byt l 1 ∧ byt l 1 < 192 := fun hc => by
    have h3 := con_lt hc
    simp only [con, Bool.and_eq_true, decide_eq_true_eq, beq_iff_eq] at hc
    exact ⟨h3, by omega, by omega⟩
  have h0 := (l.getD 0 0).toNat_lt
  have e0 : (l.getD 0 0).toNat = byt l 0 := rfl
  revert h
  unfold dec decF
  cases hcc : con l 1
  · simp only [Bool.and_false, Bool.false_and, Bool.false_eq_true, if_false]
    split
    · intro h; simp only at h; omega
    · intro h; simp only at h; omega
  · have hc' := hc hcc
    simp only [Bool.and_true, Bool.and_eq_true, decide_eq_true_eq, beq_iff_eq, ge_iff_le]
    repeat' split
    all_goals (intro h; simp only at h)
    all_goals first | omega | (refine ⟨hc'.1, ?_, ?_⟩ <;> omega)
theorem dec_three (l : List UInt8) (r : Nat) (h : (dec l).1 = r) (h1 : 2048 ≤ r) (h2 : r < 65533) : 2 < l.length ∧ byt l 0 = 224 + r / 4096 ∧ byt l 1 = 128 + r / 64 % 64 ∧ byt l 2 = 128 + r % 64 := by
  have hc : ∀ k, con l k = true → k < l.length ∧ 128 ≤ byt l k ∧ byt l k < 192 := fun k hc => by
    have h3 := con_lt hc
    simp only [con, Bool.and_eq_true, decide_eq_true_eq, beq_iff_eq] at hc
    exact ⟨h3, by omega, by omega⟩
  have h0 := (l.getD 0 0).toNat_lt
  have e0 : (l.getD 0 0).toNat = byt l 0 := rfl
  revert h
  unfold dec decF
  cases hcc : con l 1
  · simp only [Bool.and_false, Bool.false_and, Bool.false_eq_true, if_false]
    split
    · intro h; simp only at h; omega
    · intro h; simp only at h; omega
  · have hc1 := hc 1 hcc
    cases hcc2 : con l 2
    · simp only [Bool.and_true, Bool.and_false, Bool.false_and, Bool.false_eq_true, if_false, Bool.and_eq_true, decide_eq_true_eq, beq_iff_eq, ge_iff_le]
      repeat' split
      all_goals (intro h; simp only at h)
      all_goals omega
    · have hc2 := hc 2 hcc2
      simp only [Bool.and_true, Bool.and_eq_true, decide_eq_true_eq, beq_iff_eq, ge_iff_le]
      repeat' split
      all_goals (intro h; simp only at h)
      all_goals first | omega | (refine ⟨hc2.1, ?_, ?_, ?_⟩ <;> omega)
theorem pre_two (l : List UInt8) (a b : UInt8) (h : 1 < l.length) (h0 : byt l 0 = a.toNat) (h1 : byt l 1 = b.toNat) : [a, b].isPrefixOf l = true := by
  match l, h with
  | x :: y :: t, _ =>
    have e0 : x = a := UInt8.toNat_inj.1 h0
    have e1 : y = b := UInt8.toNat_inj.1 h1
    subst e0; subst e1
    simp
theorem pre_three (l : List UInt8) (a b c : UInt8) (h : 2 < l.length) (h0 : byt l 0 = a.toNat) (h1 : byt l 1 = b.toNat) (h2 : byt l 2 = c.toNat) : [a, b, c].isPrefixOf l = true := by
  match l, h with
  | x :: y :: z :: t, _ =>
    have e0 : x = a := UInt8.toNat_inj.1 h0
    have e1 : y = b := UInt8.toNat_inj.1 h1
    have e2 : z = c := UInt8.toNat_inj.1 h2
    subst e0; subst e1; subst e2
    simp
theorem pre_dec (g l : List UInt8) (r : Nat) (hp : g.isPrefixOf l = true) (hg : dec g = (r, g.length)) (hr : r ≠ 65533) : dec l = (r, g.length) := by
  refine dec_ext l r g.length ?_ hr
  have := List.prefix_iff_eq_take.1 (List.isPrefixOf_iff_prefix.1 hp)
  rw [← this]
  exact hg
theorem sign_high (c : UInt8) (r : List UInt8) (h : 128 ≤ c.toNat) : ∀ gs : List (List UInt8), (∀ g ∈ gs, g ≠ [] ∧ ∀ c ∈ g, c.toNat < 128) → signIn gs (c :: r) = bad 20
  | [], _ => rfl
  | g :: gs, H => by
    unfold signIn
    have hg := H g (by simp)
    rw [if_neg, sign_high c r h gs fun g hg => H g (by simp [hg])]
    intro hp
    match g, hg with
    | x :: t, hg =>
      rw [List.isPrefixOf_cons_cons, Bool.and_eq_true, beq_iff_eq] at hp
      have := hg.2 x (by simp)
      rw [hp.1] at this
      omega
theorem spec_low (c : UInt8) (r : List UInt8) (h : c.toNat < 128) : ∀ gs : List (List UInt8 × Int × List UInt8), (∀ g ∈ gs, ∃ x t, g.1 = x :: t ∧ 128 ≤ x.toNat) → specIn gs (c :: r) = cutSign (c :: r)
  | [], _ => rfl
  | g :: gs, H => by
    unfold specIn
    obtain ⟨x, t, hx, h1⟩ := H g (by simp)
    rw [if_neg, spec_low c r h gs fun g hg => H g (by simp [hg])]
    intro hp
    rw [hx, List.isPrefixOf_cons_cons, Bool.and_eq_true, beq_iff_eq] at hp
    rw [hp.1] at h1
    omega
theorem specials_high : ∀ g ∈ specials, ∃ x t, g.1 = x :: t ∧ 128 ≤ x.toNat := by
  intro g hg
  simp only [specials, List.mem_cons, List.not_mem_nil, or_false] at hg
  rcases hg with rfl | rfl | rfl | rfl | rfl | rfl | rfl | rfl | rfl <;> exact ⟨_, _, rfl, by decide⟩
/-- THE DOCUMENT'S LIST OF RUNES TELLS THE SAME TOKENS AS THE MODEL'S DECODING. -/
theorem spec_rune (c : UInt8) (r : List UInt8) (h : 128 ≤ c.toNat) : specIn specials (c :: r) = cutRune (c :: r) := by
  unfold cutRune
  have key : ∀ (g : List UInt8) (v : Nat), g.isPrefixOf (c :: r) = true → dec g = (v, g.length) → v ≠ 65533 → dec (c :: r) = (v, g.length) := fun g v hp hg hv => pre_dec g (c :: r) v hp hg hv
  have s0 := fun hp => key [194, 172] 172 hp (by decide) (by decide)
  have s1 := fun hp => key [226, 136, 167] 8743 hp (by decide) (by decide)
  have s2 := fun hp => key [226, 136, 168] 8744 hp (by decide) (by decide)
  have s3 := fun hp => key [226, 134, 146] 8594 hp (by decide) (by decide)
  have s4 := fun hp => key [226, 134, 148] 8596 hp (by decide) (by decide)
  have s5 := fun hp => key [226, 138, 162] 8866 hp (by decide) (by decide)
  have s6 := fun hp => key [226, 137, 164] 8804 hp (by decide) (by decide)
  have s7 := fun hp => key [226, 138, 164] 8868 hp (by decide) (by decide)
  have s8 := fun hp => key [226, 138, 165] 8869 hp (by decide) (by decide)
  simp only [specials, specIn]
  split
  · rename_i hp; rw [s0 hp]; rfl
  · rename_i n0
    split
    · rename_i hp; rw [s1 hp]; rfl
    · rename_i n1
      split
      · rename_i hp; rw [s2 hp]; rfl
      · rename_i n2
        split
        · rename_i hp; rw [s3 hp]; rfl
        · rename_i n3
          split
          · rename_i hp; rw [s4 hp]; rfl
          · rename_i n4
            split
            · rename_i hp; rw [s5 hp]; rfl
            · rename_i n5
              split
              · rename_i hp; rw [s6 hp]; rfl
              · rename_i n6
                split
                · rename_i hp; rw [s7 hp]; rfl
                · rename_i n7
                  split
                  · rename_i hp; rw [s8 hp]; rfl
                  · rename_i n8
                    rw [sign_high c r h signs signs_ok, if_pos]
                    unfold meaning
                    have two := fun v hv h1 h2 => dec_two (c :: r) v hv h1 h2
                    have three := fun v hv h1 h2 => dec_three (c :: r) v hv h1 h2
                    rw [if_neg, if_neg, if_neg, if_neg, if_neg, if_neg, if_neg, if_neg, if_neg]
                    · intro hv; obtain ⟨a, b, c', d⟩ := three 8869 hv (by omega) (by omega); exact n8 (pre_three _ _ _ _ a b c' d)
                    · intro hv; obtain ⟨a, b, c', d⟩ := three 8868 hv (by omega) (by omega); exact n7 (pre_three _ _ _ _ a b c' d)
                    · intro hv; obtain ⟨a, b, c', d⟩ := three 8804 hv (by omega) (by omega); exact n6 (pre_three _ _ _ _ a b c' d)
                    · intro hv; obtain ⟨a, b, c', d⟩ := three 8866 hv (by omega) (by omega); exact n5 (pre_three _ _ _ _ a b c' d)
                    · intro hv; obtain ⟨a, b, c', d⟩ := three 8596 hv (by omega) (by omega); exact n4 (pre_three _ _ _ _ a b c' d)
                    · intro hv; obtain ⟨a, b, c', d⟩ := three 8594 hv (by omega) (by omega); exact n3 (pre_three _ _ _ _ a b c' d)
                    · intro hv; obtain ⟨a, b, c', d⟩ := three 8744 hv (by omega) (by omega); exact n2 (pre_three _ _ _ _ a b c' d)
                    · intro hv; obtain ⟨a, b, c', d⟩ := three 8743 hv (by omega) (by omega); exact n1 (pre_three _ _ _ _ a b c' d)
                    · intro hv; obtain ⟨a, b, c'⟩ := two 172 hv (by omega) (by omega); exact n0 (pre_two _ _ _ a b c')
theorem cut_spec (c : UInt8) (r : List UInt8) : cut (c :: r) = if isBeg c = true then cutName (c :: r) else if isDig c = true then cutNum (c :: r) else specIn specials (c :: r) := by
  show (if isBeg c = true then cutName (c :: r) else if isDig c = true then cutNum (c :: r) else if c.toNat < 128 then cutSign (c :: r) else cutRune (c :: r)) = _
  by_cases h : c.toNat < 128
  · rw [if_pos h, spec_low c r h specials specials_high]
  · rw [if_neg h, spec_rune c r (by omega)]
end Go.Proofs.YtgcoalcfhflfiaaDoor.Tk

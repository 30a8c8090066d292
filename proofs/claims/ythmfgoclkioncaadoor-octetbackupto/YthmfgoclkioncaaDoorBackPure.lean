/-
  What is written is read: a number, a text. Nothing of the program's memory is named here. No condition but that the number is below 2^64.
-/
import Derived.Test.YthmfgoclkioncaaDoorReadText
import Derived.Test.YthmfgoclkioncaaDoorWritesLaw
namespace Go.Proofs.YthmfgoclkioncaaDoor
open Go.RowKit

theorem leadF_num (r : List UInt8) : ∀ (f n V i : Nat), i + f = 10 → 1 ≤ f → n * 2 ^ (7 * i) < 18446744073709551616 → (0 < i → 1 ≤ n) → Oct.leadF V i (Oct.numF f n ++ r) = (V + n * 2 ^ (7 * i), i + (Oct.numF f n).length, 0)
  | 0, n, V, i, _, h, _, _ => absurd h (by omega)
  | f + 1, n, V, i, hi, _, hn, h1 => by
    have h9 : i = 9 → n ≤ 1 := fun e => by
      subst e
      omega
    by_cases h128 : n < 128
    · have e : (UInt8.ofNat n).toNat = n := by rw [Oct.ofNat_toNat, Nat.mod_eq_of_lt (by omega)]
      rw [Oct.numF_last _ _ h128]
      simp only [List.cons_append, List.nil_append, Oct.leadF, e, List.length_cons, List.length_nil]
      rw [if_neg (by intro ⟨a, b⟩; have := h9 a; omega), if_neg (by omega), if_neg (by intro ⟨a, b⟩; have := h1 b; omega), Nat.mod_eq_of_lt h128]
    · have e : (UInt8.ofNat (n % 128 + 128)).toNat = n % 128 + 128 := by rw [Oct.ofNat_toNat, Nat.mod_eq_of_lt (by omega)]
      have hi9 : i ≠ 9 := fun e => by have := h9 e; omega
      have hf : 1 ≤ f := by omega
      have hp : 2 ^ (7 * (i + 1)) = 128 * 2 ^ (7 * i) := by rw [show 7 * (i + 1) = 7 + 7 * i by omega, Nat.pow_add]
      have hle : n / 128 * 128 ≤ n := Nat.div_mul_le_self n 128
      have hmul : n / 128 * (128 * 2 ^ (7 * i)) = n / 128 * 128 * 2 ^ (7 * i) := by rw [Nat.mul_assoc]
      have hlt : n / 128 * 2 ^ (7 * (i + 1)) < 18446744073709551616 := by
        rw [hp, hmul]
        exact Nat.lt_of_le_of_lt (Nat.mul_le_mul_right _ hle) hn
      rw [Oct.numF_more f n (by omega)]
      simp only [List.cons_append, Oct.leadF, e, List.length_cons]
      rw [if_neg (by omega), if_pos (by omega), leadF_num r f (n / 128) _ (i + 1) (by omega) hf hlt (fun _ => by omega)]
      have e2 : (n % 128 + 128) % 128 = n % 128 := by omega
      have e3 : n % 128 * 2 ^ (7 * i) + n / 128 * 128 * 2 ^ (7 * i) = n * 2 ^ (7 * i) := by
        rw [← Nat.add_mul]
        congr 1
        omega
      rw [e2, hp, hmul, Nat.add_assoc, e3, show i + 1 + (Oct.numF f (n / 128)).length = i + ((Oct.numF f (n / 128)).length + 1) by omega]
theorem lead_num (n : Nat) (h : n < 18446744073709551616) (r : List UInt8) : Oct.lead (Oct.num n ++ r) = (n, (Oct.num n).length, 0) := by
  have := leadF_num r 10 n 0 0 (by omega) (by omega) (by simpa using h) (by omega)
  simpa [Oct.lead, Oct.num] using this
theorem textErr_zero (s : List UInt8) (h : textErr s = 0) : Lib.validD s = true ∧ s.length ≤ 65536 := by
  unfold textErr at h
  split at h
  · exact absurd h (by decide)
  · rename_i hv
    split at h
    · exact absurd h (by decide)
    · exact ⟨by simpa using hv, by omega⟩
theorem take_text (s r : List UInt8) (h : textErr s = 0) : takeE (textOf s ++ r) = 0 ∧ takeS (textOf s ++ r) = s ∧ (textOf s ++ r).drop (takeN (textOf s ++ r)) = r := by
  obtain ⟨hv, hl⟩ := textErr_zero s h
  have ht : textOf s = Oct.num s.length ++ s := by rw [textOf, if_pos h]
  have hq : textOf s ++ r = Oct.num s.length ++ (s ++ r) := by rw [ht, List.append_assoc]
  rw [hq]
  have hL := lead_num s.length (by omega) (s ++ r)
  have hX : takeX (Oct.num s.length ++ (s ++ r)) = s := by
    rw [takeX, hL]
    simp
  have hE : takeE (Oct.num s.length ++ (s ++ r)) = 0 := by
    rw [takeE, hX, hL]
    simp only [ne_eq, not_true_eq_false, if_false]
    rw [if_neg (by omega), if_neg (by simp), if_neg (by rw [hv]; decide)]
  refine ⟨hE, by rw [takeS, if_pos hE, hX], ?_⟩
  rw [takeN, if_pos hE, hL]
  simp only []
  rw [← List.drop_drop, List.drop_left, List.drop_left]
/-- The pieces that are taken. -/
def goods (ps : List Pc) : List Pc := ps.filter fun q => decide (pieceE q.z q.s = 0)
theorem pieceB_bad (q : Pc) (h : pieceE q.z q.s ≠ 0) : pcB q = [] := by
  have h2 : q.z = 2 := by
    by_cases h : q.z = 2
    · exact h
    · rename_i hne; exact absurd (by rw [pieceE, if_neg h]) hne
  rw [pieceE, if_pos h2] at h
  rw [pcB, pieceB, if_neg (by omega), if_neg (by omega), if_pos h2, textOf, if_neg h]
theorem allB_goods (ps : List Pc) : allB (goods ps) = allB ps := by
  induction ps with
  | nil => rfl
  | cons q r ih =>
    by_cases h : pieceE q.z q.s = 0
    · rw [goods, List.filter_cons_of_pos (by simpa using h)]
      show pcB q ++ allB (goods r) = pcB q ++ allB r
      rw [ih]
    · rw [goods, List.filter_cons_of_neg (by simpa using h)]
      show allB (goods r) = pcB q ++ allB r
      rw [ih, pieceB_bad q h, List.nil_append]
theorem goods_snoc (ps : List Pc) (k : Nat) (h : k < ps.length) : goods (ps.take (k + 1)) = goods (ps.take k) ++ (if pieceE ps[k].z ps[k].s = 0 then [ps[k]] else []) := by
  rw [goods, List.take_succ_eq_append_getElem h, List.filter_append]
  show goods (ps.take k) ++ _ = _
  congr 1
  by_cases hE : pieceE ps[k].z ps[k].s = 0
  · rw [if_pos hE, List.filter_cons_of_pos (by simpa using hE)]; rfl
  · rw [if_neg hE, List.filter_cons_of_neg (by simpa using hE)]; rfl
theorem allB_drop (ws : List Pc) (k : Nat) (h : k < ws.length) : allB (ws.drop k) = pieceB ws[k].z ws[k].n ws[k].s ++ allB (ws.drop (k + 1)) := by
  rw [List.drop_eq_getElem_cons h]
  rfl
end Go.Proofs.YthmfgoclkioncaaDoor

/-
  A set's text read again, over plain lists: what Parse takes is what Text answers, and it is read as the same set; the document's reading, too. No condition.
-/
import Derived.Test.YthkolkmcnpafiaaDoorBRuns
namespace Go.Proofs.YthkolkmcnpafiaaDoor
namespace Bs

/-! Numbers. -/
def dg (c : UInt8) : Bool := decide (48 ≤ c.toNat) && decide (c.toNat ≤ 57)
def val (l : List UInt8) : Nat := l.foldl (fun v c => v * 10 + (c.toNat - 48)) 0
/-- The number of a text from 0 to 1023, as it is written. -/
def num (l : List UInt8) : Option Nat := if l ≠ [] ∧ l.length ≤ 10 ∧ l.all dg = true ∧ (l.length = 1 ∨ l.head? ≠ some 48) ∧ val l ≤ 1023 then some (val l) else none
theorem dig_toNat {d : Nat} (h : d < 10) : (UInt8.ofNat (48 + d)).toNat = 48 + d := by
  rw [UInt8.toNat_ofNat']
  exact Nat.mod_eq_of_lt (by omega)
theorem dg_dig {d : Nat} (h : d < 10) : dg (UInt8.ofNat (48 + d)) = true := by
  unfold dg
  rw [dig_toNat h]
  simp
  omega
theorem val_snoc (l : List UInt8) (c : UInt8) : val (l ++ [c]) = val l * 10 + (c.toNat - 48) := by simp [val]
theorem dec_all : ∀ (k u : Nat), u < 10 ^ k → (dec u).all dg = true ∧ val (dec u) = u ∧ (1 ≤ u → (dec u).head? ≠ some 48)
  | 0, u, h => by
    have : u = 0 := by simpa using h
    subst this
    rw [dec_small (by omega)]
    decide
  | k + 1, u, h => by
    by_cases hu : u < 10
    · rw [dec_small hu]
      refine ⟨by show (dg _ && true) = true; rw [dg_dig hu]; rfl, by show 0 * 10 + ((UInt8.ofNat (48 + u)).toNat - 48) = u; rw [dig_toNat hu]; omega, fun h1 e => ?_⟩
      have := congrArg (fun o => (o.map UInt8.toNat)) e
      simp only [List.head?_cons, Option.map_some, dig_toNat hu, Option.some.injEq] at this
      have h48 : (48 : UInt8).toNat = 48 := by decide
      omega
    · obtain ⟨i1, i2, i3⟩ := dec_all k (u / 10) (by rw [Nat.pow_succ] at h; exact Nat.div_lt_of_lt_mul (by omega))
      have hm : u % 10 < 10 := Nat.mod_lt _ (by omega)
      rw [dec_big hu]
      refine ⟨by rw [List.all_append, i1]; show (true && (dg _ && true)) = true; rw [dg_dig hm]; rfl, by rw [val_snoc, i2, dig_toNat hm]; omega, fun _ => ?_⟩
      have := i3 (by omega)
      cases hd : dec (u / 10) with
      | nil => exact absurd hd (dec_pos _)
      | cons c r => rw [hd] at this; simpa using this
theorem num_dec {n : Nat} (h : n < 1024) : num (dec n) = some n := by
  obtain ⟨h1, h2, h3⟩ := dec_all 4 n (by omega)
  unfold num
  rw [if_pos, h2]
  refine ⟨dec_pos n, by have := dec_len4 (show n < 10000 by omega); omega, h1, ?_, by omega⟩
  by_cases h0 : 1 ≤ n
  · exact Or.inr (h3 h0)
  · left
    rw [show n = 0 by omega, dec_small (by omega)]
    rfl
theorem dec_val : ∀ (l : List UInt8), l ≠ [] → l.all dg = true → (l.length = 1 ∨ l.head? ≠ some 48) → l = dec (val l) := by
  intro l
  generalize hk : l.length = k
  induction k generalizing l with
  | zero => intro h; exact absurd (List.eq_nil_of_length_eq_zero hk) h
  | succ k ih =>
    intro hne hall hhd
    obtain ⟨l', c, rfl⟩ : ∃ l' c, l = l' ++ [c] := ⟨l.dropLast, l.getLast hne, (List.dropLast_concat_getLast hne).symm⟩
    rw [List.all_append, Bool.and_eq_true] at hall
    have hc : dg c = true := by simpa using hall.2
    simp only [dg, Bool.and_eq_true, decide_eq_true_iff] at hc
    rw [val_snoc]
    have ec : UInt8.ofNat (48 + (c.toNat - 48)) = c := by
      rw [show 48 + (c.toNat - 48) = c.toNat by omega]
      exact UInt8.ofNat_toNat
    by_cases hl : l' = []
    · subst hl
      rw [show val [] = 0 from rfl, Nat.zero_mul, Nat.zero_add, dec_small (by omega), ec]
      rfl
    · have hlen : l'.length = k := by simpa using hk
      have hpos : 0 < l'.length := List.length_pos_iff.2 hl
      have hh : (l' ++ [c]).head? = l'.head? := by
        cases l' with
        | nil => exact absurd rfl hl
        | cons a r => rfl
      have hhd2 : l'.head? ≠ some 48 := by
        rcases hhd with h | h
        · omega
        · rwa [hh] at h
      have e := ih l' hlen hl hall.1 (Or.inr hhd2)
      have hv : 1 ≤ val l' := by
        apply Nat.pos_of_ne_zero
        intro h0
        rw [h0, dec_small (by omega)] at e
        rw [e] at hhd2
        exact hhd2 (by decide)
      rw [dec_big (show ¬ val l' * 10 + (c.toNat - 48) < 10 by omega), show (val l' * 10 + (c.toNat - 48)) / 10 = val l' by omega, show (val l' * 10 + (c.toNat - 48)) % 10 = c.toNat - 48 by omega, ec, ← e]
theorem num_some {l : List UInt8} {n : Nat} (h : num l = some n) : l = dec n ∧ n < 1024 := by
  unfold num at h
  split at h
  · rename_i hc
    cases h
    exact ⟨dec_val l hc.1 hc.2.2.1 hc.2.2.2.1, by omega⟩
  · cases h

/-! Cutting at a sign. -/
def cutAt (c : UInt8) : List UInt8 → List UInt8 × List UInt8 × Bool
  | [] => ([], [], false)
  | x :: l => if x = c then ([], l, true) else (x :: (cutAt c l).1, (cutAt c l).2.1, (cutAt c l).2.2)
theorem cutAt_join (c : UInt8) : ∀ l : List UInt8, ((cutAt c l).2.2 = true → l = (cutAt c l).1 ++ c :: (cutAt c l).2.1) ∧ ((cutAt c l).2.2 = false → l = (cutAt c l).1 ∧ (cutAt c l).2.1 = []) ∧ c ∉ (cutAt c l).1
  | [] => by simp [cutAt]
  | x :: l => by
    unfold cutAt
    by_cases h : x = c
    · rw [if_pos h]; subst h; simp
    · rw [if_neg h]
      obtain ⟨h1, h2, h3⟩ := cutAt_join c l
      refine ⟨fun e => ?_, fun e => ?_, ?_⟩
      · exact congrArg (List.cons x) (h1 e)
      · exact ⟨congrArg (List.cons x) (h2 e).1, (h2 e).2⟩
      · simp [h3, Ne.symm h]
theorem cutAt_app (c : UInt8) : ∀ (p t : List UInt8), c ∉ p → cutAt c (p ++ c :: t) = (p, t, true)
  | [], t, _ => by simp [cutAt]
  | x :: p, t, h => by
    have hx : x ≠ c := fun e => h (by rw [e]; exact List.mem_cons_self)
    show cutAt c (x :: (p ++ c :: t)) = _
    rw [cutAt, if_neg hx, cutAt_app c p t (fun hm => h (List.mem_cons_of_mem _ hm))]
theorem cutAt_none (c : UInt8) : ∀ (p : List UInt8), c ∉ p → cutAt c p = (p, [], false)
  | [], _ => rfl
  | x :: p, h => by
    have hx : x ≠ c := fun e => h (by rw [e]; exact List.mem_cons_self)
    rw [cutAt, if_neg hx, cutAt_none c p (fun hm => h (List.mem_cons_of_mem _ hm))]
theorem cutAt_len (c : UInt8) : ∀ l : List UInt8, (cutAt c l).2.2 = true → (cutAt c l).2.1.length < l.length := fun l h => by
  have := congrArg List.length ((cutAt_join c l).1 h)
  rw [List.length_append, List.length_cons] at this
  omega

/-! A run read. -/
def rdRun (l : List UInt8) : Option (Nat × Nat) :=
  match num (cutAt 45 l).1 with
  | none => none
  | some f => if (cutAt 45 l).2.2 = false then some (f, f) else
    match num (cutAt 45 l).2.1 with
    | none => none
    | some e => if e ≤ f then none else some (f, e)
theorem dec_free {n : Nat} (h : n < 10000) {c : UInt8} (hc : dg c = false) : c ∉ dec n := fun hm => by
  have := List.all_eq_true.1 (dec_all 4 n h).1 c hm
  rw [hc] at this
  cases this
theorem runT_free {p : Nat × Nat} (h1 : p.1 < 1024) (h2 : p.2 < 1024) : (44 : UInt8) ∉ runT p := by
  have a1 := dec_free (show p.1 < 10000 by omega) (c := 44) (by decide)
  have a2 := dec_free (show p.2 < 10000 by omega) (c := 44) (by decide)
  unfold runT
  split
  · exact a1
  · simp [a1, a2]
theorem rdRun_runT {p : Nat × Nat} (h1 : p.1 ≤ p.2) (h2 : p.2 < 1024) : rdRun (runT p) = some p := by
  obtain ⟨f, e⟩ := p
  simp only at h1 h2
  have a1 := dec_free (show f < 10000 by omega) (c := 45) (by decide)
  unfold rdRun runT
  by_cases hfe : f = e
  · subst hfe
    simp only [if_true]
    rw [cutAt_none 45 _ a1]
    simp only [num_dec (show f < 1024 by omega)]
    rfl
  · simp only [if_neg hfe]
    rw [List.append_assoc, List.singleton_append, cutAt_app 45 _ _ a1]
    simp only [num_dec (show f < 1024 by omega), num_dec h2]
    simp
    omega
theorem rdRun_some {l : List UInt8} {p : Nat × Nat} (h : rdRun l = some p) : l = runT p ∧ p.1 ≤ p.2 ∧ p.2 < 1024 := by
  unfold rdRun at h
  obtain ⟨j1, j2, j3⟩ := cutAt_join 45 l
  split at h
  · cases h
  · rename_i f hf
    obtain ⟨e1, hf2⟩ := num_some hf
    split at h
    · rename_i hs
      cases h
      refine ⟨?_, Nat.le_refl _, hf2⟩
      rw [(j2 hs).1, e1]
      simp [runT]
    · rename_i hs
      split at h
      · cases h
      · rename_i e he
        obtain ⟨e2, he2⟩ := num_some he
        split at h
        · cases h
        · rename_i hle
          cases h
          refine ⟨?_, by show f ≤ e; omega, he2⟩
          have := j1 (by simpa using hs)
          rw [this, e1, e2]
          unfold runT
          rw [if_neg (by show ¬ f = e; omega)]
          simp
end Bs
end Go.Proofs.YthkolkmcnpafiaaDoor

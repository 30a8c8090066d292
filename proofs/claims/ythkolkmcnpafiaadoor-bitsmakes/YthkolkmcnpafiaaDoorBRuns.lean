/-
  A set's runs and its text; reading it again; over plain lists. No condition.
-/
import Derived.Test.YthkolkmcnpafiaaDoorBWord
import Derived.Lib.ItoaNum
namespace Go.Proofs.YthkolkmcnpafiaaDoor
namespace Bs

/-- A run begins here. -/
def start (r : List Nat) (n : Nat) : Bool := has r n && (n == 0 || !has r (n - 1))
/-- The last number of the run that holds n. -/
def ende (r : List Nat) (n : Nat) : Nat := (up (fun m => !has r (m + 1)) (1024 - n) n).getD n
def starts (r : List Nat) (n : Nat) : List Nat := ((List.range 1024).drop n).filter (start r)
def runs (r : List Nat) (n : Nat) : List (Nat × Nat) := (starts r n).map fun f => (f, ende r f)
theorem ende_spec {r : List Nat} (hr : Ok r) {n : Nat} (hn : n < 1024) : n ≤ ende r n ∧ ende r n < 1024 ∧ has r (ende r n + 1) = false ∧ ∀ k, n ≤ k → k < ende r n → has r (k + 1) = true := by
  unfold ende
  cases h : up (fun m => !has r (m + 1)) (1024 - n) n with
  | none =>
    have := up_none h 1023 (by omega) (by omega)
    rw [has_hi hr (by omega)] at this
    cases this
  | some m =>
    obtain ⟨h1, h2, h3, h4⟩ := up_some h
    refine ⟨h1, show m < 1024 by omega, by simpa using h3, fun k k1 k2 => by simpa using h4 k k1 k2⟩
theorem ende_eq {r : List Nat} (hr : Ok r) {n m : Nat} (hn : n < 1024) (h1 : n ≤ m) (h3 : has r (m + 1) = false) (h4 : ∀ k, n ≤ k → k < m → has r (k + 1) = true) : ende r n = m := by
  obtain ⟨e1, e2, e3, e4⟩ := ende_spec hr hn
  by_cases e : ende r n = m
  · exact e
  · rcases Nat.lt_or_gt_of_ne e with hl | hl
    · rw [h4 _ e1 hl] at e3; cases e3
    · rw [e4 m h1 hl] at h3; cases h3
theorem ende_has {r : List Nat} (hr : Ok r) {n : Nat} (hn : n < 1024) (hh : has r n = true) : ∀ k, n ≤ k → k ≤ ende r n → has r k = true := by
  intro k h1 h2
  by_cases e : k = n
  · rw [e]; exact hh
  · have := (ende_spec hr hn).2.2.2 (k - 1) (by omega) (by omega)
    rwa [show k - 1 + 1 = k by omega] at this
theorem drop_skip {p : Nat → Bool} {n m : Nat} (hnm : n ≤ m) (h : ∀ k, n ≤ k → k < m → p k = false) : ((List.range 1024).drop n).filter p = ((List.range 1024).drop m).filter p := by
  obtain ⟨d, rfl⟩ : ∃ d, m = n + d := ⟨m - n, by omega⟩
  induction d with
  | zero => rfl
  | succ d ih =>
    rw [ih (by omega) (fun k h1 h2 => h k h1 (by omega))]
    by_cases hd : n + d < 1024
    · rw [List.drop_eq_getElem_cons (by simpa using hd), List.filter_cons, if_neg (by rw [List.getElem_range, h (n + d) (by omega) (by omega)]; simp)]
      rfl
    · rw [List.drop_eq_nil_of_le (by simp; omega), List.drop_eq_nil_of_le (by simp; omega)]
theorem drop_take {p : Nat → Bool} {n : Nat} (hn : n < 1024) (h : p n = true) : ((List.range 1024).drop n).filter p = n :: ((List.range 1024).drop (n + 1)).filter p := by
  rw [List.drop_eq_getElem_cons (by simpa using hn), List.filter_cons, List.getElem_range, if_pos h]
theorem start_has {r : List Nat} {n : Nat} (h : has r n = false) : start r n = false := by simp [start, h]
theorem starts_none {r : List Nat} (hr : Ok r) {n : Nat} (h : next r n = none) : starts r n = [] :=
  List.filter_eq_nil_iff.2 fun k hk => by
    have : n ≤ k := by
      obtain ⟨i, hi, rfl⟩ := List.mem_iff_getElem.1 hk
      rw [List.getElem_drop, List.getElem_range]
      omega
    rw [start_has (next_none hr h k this)]
    simp
theorem starts_some {r : List Nat} (hr : Ok r) {n m : Nat} (h : next r n = some m) (hs : start r m = true) : starts r n = m :: starts r (ende r m + 1) := by
  obtain ⟨h1, h2, h3, h4⟩ := next_lt h
  unfold starts
  rw [drop_skip h1 (fun k k1 k2 => start_has (h4 k k1 k2)), drop_take h2 hs]
  refine congrArg (List.cons m) ?_
  refine drop_skip (by have := (ende_spec hr h2).1; omega) fun k k1 k2 => ?_
  have := ende_has hr h2 h3 (k - 1) (by omega) (by omega)
  simp only [start, this]
  simp
  omega
/-- No run goes over n. -/
def Clean (r : List Nat) (n : Nat) : Prop := n = 0 ∨ has r (n - 1) = false ∨ has r n = false
theorem clean_start {r : List Nat} {n m : Nat} (hc : Clean r n) (h : next r n = some m) : start r m = true := by
  obtain ⟨h1, h2, h3, h4⟩ := next_lt h
  unfold start
  rw [h3, Bool.true_and]
  by_cases e : m = n
  · subst e
    rcases hc with h | h | h
    · simp [h]
    · simp [h]
    · rw [h] at h3; cases h3
  · rw [h4 (m - 1) (by omega) (by omega)]
    simp
theorem clean_ende {r : List Nat} (hr : Ok r) {n : Nat} (hn : n < 1024) : Clean r (ende r n + 1) := Or.inr (Or.inr (ende_spec hr hn).2.2.1)
theorem runs_none {r : List Nat} (hr : Ok r) {n : Nat} (h : next r n = none) : runs r n = [] := by rw [runs, starts_none hr h]; rfl
theorem runs_some {r : List Nat} (hr : Ok r) {n m : Nat} (hc : Clean r n) (h : next r n = some m) : runs r n = (m, ende r m) :: runs r (ende r m + 1) := by
  rw [runs, starts_some hr h (clean_start hc h)]; rfl

/-! The text. -/
def dec (n : Nat) : List UInt8 := Lib.decDigits n
def runT (p : Nat × Nat) : List UInt8 := if p.1 = p.2 then dec p.1 else dec p.1 ++ [45] ++ dec p.2
def add (s : List UInt8) (p : Nat × Nat) : List UInt8 := (if s = [] then [] else s ++ [44]) ++ runT p
def text (r : List Nat) : List UInt8 := (runs r 0).foldl add []
theorem dec_small {u : Nat} (h : u < 10) : dec u = [UInt8.ofNat (48 + u)] := Lib.decDigits_one h
theorem dec_big {u : Nat} (h : ¬ u < 10) : dec u = dec (u / 10) ++ [UInt8.ofNat (48 + u % 10)] := by
  show Lib.decDigits u = Lib.decDigits (u / 10) ++ _
  rw [Lib.decDigits, dif_neg h]
theorem dec_pos (u : Nat) : dec u ≠ [] := by
  by_cases hu : u < 10
  · rw [dec_small hu]; simp
  · rw [dec_big hu]; simp
theorem dec_len4 {u : Nat} (h : u < 10000) : (dec u).length ≤ 4 := by
  by_cases h1 : u < 10
  · rw [dec_small h1]; simp
  · rw [dec_big h1, List.length_append]
    by_cases h2 : u / 10 < 10
    · rw [dec_small h2]; simp
    · rw [dec_big h2, List.length_append]
      by_cases h3 : u / 10 / 10 < 10
      · rw [dec_small h3]; simp
      · rw [dec_big h3, List.length_append, dec_small (show u / 10 / 10 / 10 < 10 by omega)]; simp
theorem runT_pos (p : Nat × Nat) : runT p ≠ [] := by
  unfold runT
  split
  · exact dec_pos _
  · simp
theorem runT_len {p : Nat × Nat} (h1 : p.1 < 1024) (h2 : p.2 < 1024) : (runT p).length ≤ 9 := by
  have a1 := dec_len4 (show p.1 < 10000 by omega)
  have a2 := dec_len4 (show p.2 < 10000 by omega)
  unfold runT
  split
  · omega
  · rw [List.length_append, List.length_append]; simp; omega
theorem add_pos (s : List UInt8) (p : Nat × Nat) : add s p ≠ [] := by
  unfold add
  intro h
  exact runT_pos p (List.append_eq_nil_iff.1 h).2
theorem add_len {s : List UInt8} {p : Nat × Nat} (h1 : p.1 < 1024) (h2 : p.2 < 1024) : (add s p).length ≤ s.length + 10 := by
  have := runT_len h1 h2
  unfold add
  rw [List.length_append]
  split
  · simp; omega
  · rw [List.length_append]; simp; omega
end Bs
end Go.Proofs.YthkolkmcnpafiaaDoor

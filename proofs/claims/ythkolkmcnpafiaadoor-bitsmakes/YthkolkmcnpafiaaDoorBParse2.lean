/-
  What Parse answers over plain lists, the program's way and the document's; both are the set whose text it is. No condition.
-/
import Derived.Test.YthkolkmcnpafiaaDoorBParse
namespace Go.Proofs.YthkolkmcnpafiaaDoor
namespace Bs

/-! Spans. -/
def putAll (b : List Nat) : Nat → Nat → List Nat
  | f, 0 => put b f
  | f, d + 1 => put (putAll b f d) (f + (d + 1))
theorem putAll_ok {b : List Nat} (h : Ok b) (f : Nat) : ∀ d, Ok (putAll b f d)
  | 0 => put_ok h f
  | d + 1 => put_ok (putAll_ok h f d) _
theorem has_putAll {b : List Nat} (h : Ok b) (f : Nat) : ∀ d, f + d < 1024 → ∀ n, has (putAll b f d) n = (has b n || (decide (f ≤ n) && decide (n ≤ f + d)))
  | 0, hd, n => by
    rw [putAll, has_put h (by omega)]
    congr 1
    by_cases e : n = f
    · subst e; simp
    · rw [decide_eq_false e]
      by_cases h1 : f ≤ n
      · rw [decide_eq_true h1, decide_eq_false (show ¬ n ≤ f + 0 by omega)]; rfl
      · rw [decide_eq_false h1]; rfl
  | d + 1, hd, n => by
    rw [putAll, has_put (putAll_ok h f d) (by omega), has_putAll h f d (by omega), Bool.or_assoc]
    congr 1
    by_cases h1 : f ≤ n
    · rw [decide_eq_true h1, Bool.true_and, Bool.true_and]
      by_cases h2 : n ≤ f + d
      · rw [decide_eq_true h2, decide_eq_true (show n ≤ f + (d + 1) by omega)]; rfl
      · rw [decide_eq_false h2, Bool.false_or]
        exact decide_eq_decide.2 (by omega)
    · rw [decide_eq_false h1, decide_eq_false (show ¬ n = f + (d + 1) by omega)]; rfl
def span (f e : Nat) : List Nat := putAll zero f (e - f)
theorem span_ok (f e : Nat) : Ok (span f e) := putAll_ok zero_ok f _
theorem has_span {f e : Nat} (h1 : f ≤ e) (h2 : e < 1024) (n : Nat) : has (span f e) n = (decide (f ≤ n) && decide (n ≤ e)) := by
  rw [span, has_putAll zero_ok f _ (by omega), has_zero, Bool.false_or, show f + (e - f) = e by omega]

/-! The program's way. -/
def par : Nat → List UInt8 → List Nat → Nat → Option (List Nat)
  | 0, _, _, _ => none
  | k + 1, s, b, least =>
    match rdRun (cutAt 44 s).1 with
    | none => none
    | some p => if p.1 < least then none else if (cutAt 44 s).2.2 = true then par k (cutAt 44 s).2.1 (union b (span p.1 p.2)) (p.2 + 2) else some (union b (span p.1 p.2))
def parse (s : List UInt8) : Option (List Nat) := if s = [] then some zero else par (s.length + 1) s zero 0
/-- Runs that rise, none touching the next. -/
def Sep : List (Nat × Nat) → Nat → Prop
  | [], _ => True
  | p :: L, least => least ≤ p.1 ∧ p.1 ≤ p.2 ∧ p.2 < 1024 ∧ Sep L (p.2 + 2)
def inRuns (L : List (Nat × Nat)) (n : Nat) : Bool := L.any fun p => decide (p.1 ≤ n) && decide (n ≤ p.2)
theorem sep_low : ∀ {L : List (Nat × Nat)} {least n : Nat}, Sep L least → n < least → inRuns L n = false
  | [], _, _, _, _ => rfl
  | p :: L, least, n, h, hn => by
    obtain ⟨h1, h2, h3, h4⟩ := h
    simp only [inRuns, List.any_cons]
    rw [decide_eq_false (show ¬ p.1 ≤ n by omega), Bool.false_and, Bool.false_or]
    exact sep_low h4 (by omega)
theorem runs_build {r : List Nat} (hr : Ok r) : ∀ (L : List (Nat × Nat)) (least : Nat), Sep L least → (∀ n, least - 1 ≤ n → has r n = inRuns L n) → runs r least = L
  | [], least, _, h => by
    have : next r least = none := up_eq_none fun k h1 _ => h k (by omega)
    exact runs_none hr this
  | p :: L, least, hs, h => by
    obtain ⟨h1, h2, h3, h4⟩ := hs
    have hin : ∀ n, least - 1 ≤ n → has r n = ((decide (p.1 ≤ n) && decide (n ≤ p.2)) || inRuns L n) := fun n hn => h n hn
    have hlow : ∀ n, n < p.2 + 2 → inRuns L n = false := fun n hn => sep_low h4 hn
    have hp1 : has r p.1 = true := by rw [hin p.1 (by omega)]; simp; exact Or.inl h2
    have hnx : next r least = some p.1 := up_eq_some h1 (by omega) hp1 fun k k1 k2 => by
      rw [hin k (by omega), hlow k (by omega), decide_eq_false (show ¬ p.1 ≤ k by omega)]; rfl
    have hcl : Clean r least := by
      by_cases h0 : least = 0
      · exact Or.inl h0
      · right; left
        rw [hin (least - 1) (Nat.le_refl _), hlow _ (by omega), decide_eq_false (show ¬ p.1 ≤ least - 1 by omega)]; rfl
    have hend : has r (p.2 + 1) = false := by
      rw [hin _ (by omega), hlow _ (by omega), decide_eq_false (show ¬ p.2 + 1 ≤ p.2 by omega)]; simp
    have he : ende r p.1 = p.2 := ende_eq hr (by omega) h2 hend fun k k1 k2 => by
      rw [hin _ (by omega), decide_eq_true (show p.1 ≤ k + 1 by omega), decide_eq_true (show k + 1 ≤ p.2 by omega)]; rfl
    rw [runs_some hr hcl hnx, he]
    refine congrArg (List.cons p) ?_
    have hskip : runs r (p.2 + 1) = runs r (p.2 + 2) := by
      unfold runs starts
      rw [drop_skip (show p.2 + 1 ≤ p.2 + 2 by omega) fun k k1 k2 => by rw [show k = p.2 + 1 by omega]; exact start_has hend]
    rw [hskip]
    refine runs_build hr L (p.2 + 2) h4 fun n hn => ?_
    rw [hin n (by omega), decide_eq_false (show ¬ n ≤ p.2 by omega)]
    simp
set_option maxRecDepth 100000 in
theorem sep_runs {r : List Nat} (hr : Ok r) : ∀ (k n : Nat), 1024 ≤ n + k → Clean r n → Sep (runs r n) n ∧ ∀ m, n ≤ m → has r m = inRuns (runs r n) m
  | 0, n, hk, _ => by
    have : next r n = none := up_eq_none fun j h1 h2 => by omega
    rw [runs_none hr this]
    exact ⟨trivial, fun m hm => by rw [has_hi hr (by omega)]; rfl⟩
  | k + 1, n, hk, hc => by
    cases h : next r n with
    | none =>
      rw [runs_none hr h]
      exact ⟨trivial, fun m hm => by rw [next_none hr h m hm]; rfl⟩
    | some m =>
      obtain ⟨h1, h2, h3, h4⟩ := next_lt h
      obtain ⟨e1, e2, e3, e4⟩ := ende_spec hr h2
      rw [runs_some hr hc h]
      obtain ⟨i1, i2⟩ := sep_runs hr k (ende r m + 1) (by omega) (clean_ende hr h2)
      have hs2 : Sep (runs r (ende r m + 1)) (ende r m + 2) := by
        cases hq : runs r (ende r m + 1) with
        | nil => trivial
        | cons p L =>
          rw [hq] at i1 i2
          obtain ⟨q1, q2, q3, q4⟩ := i1
          refine ⟨?_, q2, q3, q4⟩
          apply Nat.lt_of_le_of_ne q1
          intro e
          have := i2 (ende r m + 1) (Nat.le_refl _)
          rw [e3] at this
          simp only [inRuns, List.any_cons] at this
          rw [← e, decide_eq_true (Nat.le_refl _), decide_eq_true (show ende r m + 1 ≤ p.2 by omega)] at this
          cases this
      refine ⟨⟨h1, e1, e2, hs2⟩, fun q hq => ?_⟩
      simp only [inRuns, List.any_cons]
      by_cases hqm : q < m
      · rw [h4 q hq hqm, decide_eq_false (show ¬ m ≤ q by omega), Bool.false_and, Bool.false_or]
        exact (sep_low hs2 (by omega)).symm
      · by_cases hqe : q ≤ ende r m
        · rw [ende_has hr h2 h3 q (by omega) hqe, decide_eq_true (show m ≤ q by omega), decide_eq_true hqe]; rfl
        · rw [decide_eq_false hqe, Bool.and_false, Bool.false_or]
          exact i2 q (by omega)
/-! Texts of runs. -/
def joinT : List (Nat × Nat) → List UInt8
  | [] => []
  | [p] => runT p
  | p :: q :: L => runT p ++ 44 :: joinT (q :: L)
theorem fold_add : ∀ (L : List (Nat × Nat)) (s : List UInt8), s ≠ [] → L ≠ [] → L.foldl add s = s ++ 44 :: joinT L
  | [], _, _, h => absurd rfl h
  | [p], s, hs, _ => by simp [add, hs, joinT]
  | p :: q :: L, s, hs, _ => by
    rw [List.foldl_cons, fold_add (q :: L) _ (add_pos s p) (by simp), add, if_neg hs]
    simp [joinT]
theorem fold_joinT (L : List (Nat × Nat)) : L.foldl add [] = joinT L := by
  match L with
  | [] => rfl
  | [p] => simp [add, joinT]
  | p :: q :: L =>
    rw [List.foldl_cons, fold_add (q :: L) _ (add_pos [] p) (by simp)]
    simp [add, joinT]
theorem text_join (r : List Nat) : text r = joinT (runs r 0) := fold_joinT _
theorem joinT_ne : ∀ {L : List (Nat × Nat)}, L ≠ [] → joinT L ≠ []
  | [], h => absurd rfl h
  | [p], _ => runT_pos p
  | _ :: _ :: _, _ => by simp [joinT]
/-- What a row of runs makes. -/
def buildR (L : List (Nat × Nat)) (b : List Nat) : List Nat := L.foldl (fun b p => union b (span p.1 p.2)) b
theorem buildR_ok : ∀ (L : List (Nat × Nat)) {b : List Nat}, Ok b → Ok (buildR L b)
  | [], _, h => h
  | _ :: L, _, h => buildR_ok L (union_ok h (span_ok _ _))
theorem has_buildR : ∀ (L : List (Nat × Nat)) {b : List Nat} {least : Nat}, Ok b → Sep L least → ∀ n, n < 1024 → has (buildR L b) n = (has b n || inRuns L n)
  | [], b, _, _, _, n, _ => by simp [buildR, inRuns]
  | p :: L, b, least, hb, hs, n, hn => by
    obtain ⟨h1, h2, h3, h4⟩ := hs
    show has (buildR L (union b (span p.1 p.2))) n = _
    rw [has_buildR L (union_ok hb (span_ok _ _)) h4 n hn, has_union _ _ hn, has_span h2 h3, Bool.or_assoc]
    rfl
set_option maxRecDepth 100000 in
theorem buildR_runs {r : List Nat} (hr : Ok r) : buildR (runs r 0) zero = r := by
  obtain ⟨h1, h2⟩ := sep_runs hr 1024 0 (by omega) (Or.inl rfl)
  refine has_ext (buildR_ok _ zero_ok) hr fun n hn => ?_
  rw [has_buildR _ zero_ok h1 n hn, has_zero, Bool.false_or, h2 n (by omega)]
theorem par_join : ∀ (L : List (Nat × Nat)) (k : Nat) (b : List Nat) (least : Nat), L ≠ [] → L.length ≤ k → Sep L least → par k (joinT L) b least = some (buildR L b)
  | [], _, _, _, h, _, _ => absurd rfl h
  | [p], k, b, least, _, hk, hs => by
    obtain ⟨h1, h2, h3, _⟩ := hs
    obtain ⟨k, rfl⟩ : ∃ j, k = j + 1 := ⟨k - 1, by simp at hk; omega⟩
    rw [joinT, par, cutAt_none 44 _ (runT_free (by omega) h3)]
    simp only [rdRun_runT h2 h3]
    rw [if_neg (by omega)]
    rfl
  | p :: q :: L, k, b, least, _, hk, hs => by
    obtain ⟨h1, h2, h3, h4⟩ := hs
    obtain ⟨k, rfl⟩ : ∃ j, k = j + 1 := ⟨k - 1, by simp at hk; omega⟩
    rw [joinT, par, cutAt_app 44 _ _ (runT_free (by omega) h3)]
    simp only [rdRun_runT h2 h3]
    rw [if_neg (by omega), if_pos trivial, par_join (q :: L) k _ _ (by simp) (by simp at hk ⊢; omega) h4]
    rfl
theorem joinT_len : ∀ (L : List (Nat × Nat)), L.length ≤ (joinT L).length
  | [] => by simp [joinT]
  | [p] => by
    have := List.length_pos_iff.2 (runT_pos p)
    simp [joinT]; omega
  | p :: q :: L => by
    have := joinT_len (q :: L)
    simp [joinT] at this ⊢; omega
set_option maxRecDepth 100000 in
theorem parse_text {r : List Nat} (hr : Ok r) : parse (text r) = some r := by
  unfold parse
  obtain ⟨h1, _⟩ := sep_runs hr 1024 0 (by omega) (Or.inl rfl)
  have hb := buildR_runs hr
  rw [text_join]
  by_cases h : runs r 0 = []
  · rw [h] at hb ⊢
    rw [if_pos (show joinT [] = [] from rfl)]
    exact congrArg some hb
  · rw [if_neg (joinT_ne h), par_join _ _ _ _ h (by have := joinT_len (runs r 0); omega) h1, hb]
theorem par_some : ∀ (k : Nat) (s : List UInt8) (b : List Nat) (least : Nat) (r : List Nat), par k s b least = some r → ∃ L, L ≠ [] ∧ s = joinT L ∧ Sep L least ∧ r = buildR L b
  | 0, _, _, _, _, h => by cases h
  | k + 1, s, b, least, r, h => by
    unfold par at h
    obtain ⟨j1, j2, j3⟩ := cutAt_join 44 s
    split at h
    · cases h
    · rename_i p hp
      obtain ⟨e1, e2, e3⟩ := rdRun_some hp
      split at h
      · cases h
      · rename_i hl
        split at h
        · rename_i hf
          obtain ⟨L, l1, l2, l3, l4⟩ := par_some k _ _ _ _ h
          refine ⟨p :: L, by simp, ?_, ⟨by omega, e2, e3, l3⟩, l4⟩
          cases L with
          | nil => exact absurd rfl l1
          | cons q L => rw [j1 hf, e1, l2]; rfl
        · rename_i hf
          cases h
          exact ⟨[p], by simp, by rw [(j2 (by simpa using hf)).1, e1]; rfl, ⟨by omega, e2, e3, trivial⟩, rfl⟩
set_option maxRecDepth 100000 in
theorem parse_some {s : List UInt8} {r : List Nat} (h : parse s = some r) : Ok r ∧ text r = s := by
  unfold parse at h
  split at h
  · rename_i hs
    cases h
    refine ⟨zero_ok, ?_⟩
    rw [hs, text, runs_none zero_ok (up_eq_none fun k _ _ => has_zero k)]
    rfl
  · obtain ⟨L, l1, l2, l3, rfl⟩ := par_some _ _ _ _ _ h
    have hok := buildR_ok L zero_ok
    refine ⟨hok, ?_⟩
    rw [text_join, runs_build hok L 0 l3 fun n _ => ?_, l2]
    by_cases hn : n < 1024
    · rw [has_buildR L zero_ok l3 n hn, has_zero, Bool.false_or]
    · rw [has_hi hok (by omega)]
      have : ∀ (L : List (Nat × Nat)) least, Sep L least → inRuns L n = false := by
        intro L
        induction L with
        | nil => intro _ _; rfl
        | cons p L ih =>
          intro least hs
          obtain ⟨q1, q2, q3, q4⟩ := hs
          simp only [inRuns, List.any_cons]
          rw [decide_eq_false (show ¬ n ≤ p.2 by omega), Bool.and_false, Bool.false_or]
          exact ih _ q4
      exact (this L 0 l3).symm
theorem text_inj {a b : List Nat} (ha : Ok a) (hb : Ok b) (h : text a = text b) : a = b := by
  have h1 := parse_text ha
  rw [h, parse_text hb] at h1
  exact (Option.some.inj h1).symm
end Bs
end Go.Proofs.YthkolkmcnpafiaaDoor

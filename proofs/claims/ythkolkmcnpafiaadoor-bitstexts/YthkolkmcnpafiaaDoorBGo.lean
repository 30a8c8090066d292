/-
  The document's way of reading a set's text, over plain lists: it reads what Text answers as the same set. No condition.
-/
import Derived.Test.YthkolkmcnpafiaaDoorBParse2
namespace Go.Proofs.YthkolkmcnpafiaaDoor
namespace Bs

def ap (fs : Option Nat) (n : Nat) (b : List Nat) : List Nat := match fs with
  | none => put b n
  | some f => if f ≤ n then putAll b f (n - f) else b
def go : List UInt8 → List UInt8 → Option Nat → List Nat → Option (List Nat)
  | [], cur, fs, b => match num cur with
    | none => none
    | some n => some (ap fs n b)
  | c :: r, cur, fs, b => if dg c = true then go r (cur ++ [c]) fs b else match num cur with
    | none => none
    | some n => go r [] (if c = 45 then some n else none) (ap fs n b)
theorem ap_ok {b : List Nat} (h : Ok b) (fs : Option Nat) (n : Nat) : Ok (ap fs n b) := by
  unfold ap
  split
  · exact put_ok h n
  · split
    · exact putAll_ok h _ _
    · exact h
theorem go_digs : ∀ (ds t cur : List UInt8) (fs : Option Nat) (b : List Nat), ds.all dg = true → go (ds ++ t) cur fs b = go t (cur ++ ds) fs b
  | [], t, cur, fs, b, _ => by simp
  | c :: ds, t, cur, fs, b, h => by
    rw [List.all_cons, Bool.and_eq_true] at h
    show go (c :: (ds ++ t)) cur fs b = _
    rw [go, if_pos h.1, go_digs ds t _ fs b h.2]
    simp
theorem dec_dg {n : Nat} (h : n < 1024) : (dec n).all dg = true := (dec_all 4 n (by omega)).1
/-- What a run adds. -/
def apR (p : Nat × Nat) (b : List Nat) : List Nat := if p.1 = p.2 then put b p.1 else ap (some p.1) p.2 (put b p.1)
theorem apR_union {p : Nat × Nat} (h1 : p.1 ≤ p.2) (h2 : p.2 < 1024) {b : List Nat} (hb : Ok b) : apR p b = union b (span p.1 p.2) := by
  unfold apR
  by_cases h : p.1 = p.2
  · rw [if_pos h]
    refine has_ext (put_ok hb _) (union_ok hb (span_ok _ _)) fun n hn => ?_
    rw [has_put hb (by omega), has_union _ _ hn, has_span h1 h2]
    congr 1
    by_cases e : n = p.1
    · rw [decide_eq_true e, decide_eq_true (show p.1 ≤ n by omega), decide_eq_true (show n ≤ p.2 by omega)]; rfl
    · rw [decide_eq_false e]
      by_cases e2 : p.1 ≤ n
      · rw [decide_eq_false (show ¬ n ≤ p.2 by omega)]; simp
      · rw [decide_eq_false e2]; rfl
  · rw [if_neg h]
    show (if p.1 ≤ p.2 then _ else _) = _
    rw [if_pos h1]
    refine has_ext (putAll_ok (put_ok hb _) _ _) (union_ok hb (span_ok _ _)) fun n hn => ?_
    rw [has_putAll (put_ok hb _) _ _ (by omega), has_put hb (by omega), has_union _ _ hn, has_span h1 h2, show p.1 + (p.2 - p.1) = p.2 by omega, Bool.or_assoc]
    congr 1
    by_cases e : n = p.1
    · rw [decide_eq_true e, decide_eq_true (show p.1 ≤ n by omega), decide_eq_true (show n ≤ p.2 by omega)]; rfl
    · rw [decide_eq_false e]; rfl
theorem go_run {p : Nat × Nat} (h1 : p.1 ≤ p.2) (h2 : p.2 < 1024) (b : List Nat) : go (runT p) [] none b = some (apR p b) ∧ ∀ t, go (runT p ++ 44 :: t) [] none b = go t [] none (apR p b) := by
  have hd : dg 45 = false := by decide
  have hd4 : dg 44 = false := by decide
  have n1 := num_dec (show p.1 < 1024 by omega)
  have n2 := num_dec h2
  unfold runT apR
  by_cases h : p.1 = p.2
  · rw [if_pos h, if_pos h]
    refine ⟨?_, fun t => ?_⟩
    · have := go_digs (dec p.1) [] [] none b (dec_dg (by omega))
      rw [List.append_nil, List.nil_append] at this
      rw [this, go, n1]; rfl
    · rw [go_digs (dec p.1) (44 :: t) [] none b (dec_dg (by omega)), List.nil_append, go, if_neg (by rw [hd4]; decide), n1]
      rfl
  · rw [if_neg h, if_neg h]
    refine ⟨?_, fun t => ?_⟩
    · rw [List.append_assoc, go_digs (dec p.1) _ [] none b (dec_dg (by omega)), List.nil_append, List.singleton_append, go, if_neg (by rw [hd]; decide), n1]
      have := go_digs (dec p.2) [] [] (some p.1) (put b p.1) (dec_dg h2)
      rw [List.append_nil, List.nil_append] at this
      show go (dec p.2) [] (some p.1) (put b p.1) = _
      rw [this, go, n2]
    · rw [List.append_assoc, List.append_assoc, go_digs (dec p.1) _ [] none b (dec_dg (by omega)), List.nil_append, List.singleton_append, go, if_neg (by rw [hd]; decide), n1]
      show go (dec p.2 ++ 44 :: t) [] (some p.1) (put b p.1) = _
      rw [go_digs (dec p.2) (44 :: t) [] (some p.1) (put b p.1) (dec_dg h2), List.nil_append, go, if_neg (by rw [hd4]; decide), n2]
      rfl
theorem go_join : ∀ (L : List (Nat × Nat)) {least : Nat} {b : List Nat}, L ≠ [] → Ok b → Sep L least → go (joinT L) [] none b = some (buildR L b)
  | [], _, _, h, _, _ => absurd rfl h
  | [p], least, b, _, hb, hs => by
    obtain ⟨h1, h2, h3, _⟩ := hs
    rw [joinT, (go_run h2 h3 b).1, apR_union h2 h3 hb]
    rfl
  | p :: q :: L, least, b, _, hb, hs => by
    obtain ⟨h1, h2, h3, h4⟩ := hs
    rw [joinT, (go_run h2 h3 b).2, apR_union h2 h3 hb, go_join (q :: L) (by simp) (union_ok hb (span_ok _ _)) h4]
    rfl
/-- What the document's Parse answers. -/
def rparse (l : List UInt8) : Option (List Nat) := if l = [] then some zero else match go l [] none zero with
  | none => none
  | some b => if text b = l then some b else none
set_option maxRecDepth 100000 in
theorem go_ok : ∀ (l cur : List UInt8) (fs : Option Nat) (b r : List Nat), Ok b → go l cur fs b = some r → Ok r
  | [], cur, fs, b, r, hb, h => by
    rw [go] at h
    cases hn : num cur with
    | none => rw [hn] at h; cases h
    | some n => rw [hn] at h; cases h; exact ap_ok hb _ _
  | c :: l, cur, fs, b, r, hb, h => by
    rw [go] at h
    split at h
    · exact go_ok l _ _ _ _ hb h
    · cases hn : num cur with
      | none => rw [hn] at h; cases h
      | some n => rw [hn] at h; exact go_ok l _ _ _ _ (ap_ok hb _ _) h
set_option maxRecDepth 100000 in
theorem rparse_text {r : List Nat} (hr : Ok r) : rparse (text r) = some r := by
  unfold rparse
  obtain ⟨h1, _⟩ := sep_runs hr 1024 0 (by omega) (Or.inl rfl)
  have hb := buildR_runs hr
  by_cases h : runs r 0 = []
  · have e : text r = [] := by rw [text_join, h]; rfl
    rw [if_pos e]
    rw [h] at hb
    exact congrArg some hb
  · have e : text r ≠ [] := by rw [text_join]; exact joinT_ne h
    rw [if_neg e]
    have hg : go (text r) [] none zero = some r := by rw [text_join, go_join _ h zero_ok h1, hb]
    rw [hg]
    simp
theorem rparse_eq (l : List UInt8) : rparse l = parse l := by
  cases h : parse l with
  | some r =>
    obtain ⟨hr, ht⟩ := parse_some h
    rw [← ht]
    exact rparse_text hr
  | none =>
    cases h2 : rparse l with
    | none => rfl
    | some b =>
      exfalso
      unfold rparse at h2
      split at h2
      · rename_i hl
        rw [parse, if_pos hl] at h
        cases h
      · split at h2
        · cases h2
        · rename_i b' hg
          split at h2
          · rename_i ht
            have hok := go_ok l [] none zero b' zero_ok hg
            rw [← ht, parse_text hok] at h
            cases h
          · cases h2
end Bs
end Go.Proofs.YthkolkmcnpafiaaDoor

/-
  Plain mathematics of patterns as the document tells them: all numbers from the pattern down, names in a row that rises. No condition.
-/
import Derived.Test.YthfedlodikbdgaaUMatch
import Derived.Test.YthfedlodikbdgaaUPatC
namespace Go.Proofs.Ythfedlodikbdgaa
open Fm (Nd)
open Sb

theorem desc_filter : ∀ {l : List Nat} (_ : l.Pairwise (fun a b => b < a)) (i : Nat), l.filter (fun j => decide (i ≤ j)) = l.filter (fun j => decide (i + 1 ≤ j)) ++ (if i ∈ l then [i] else []) ∧ (i ∈ l → l = l.filter (fun j => decide (i + 1 ≤ j)) ++ i :: l.filter (fun j => decide (j < i)))
  | [], _, i => by simp
  | a :: r, h, i => by
    obtain ⟨h1, h2⟩ := List.pairwise_cons.1 h
    obtain ⟨g1, g2⟩ := desc_filter h2 i
    have hle : a ≤ i → r.filter (fun j => decide (i ≤ j)) = [] ∧ r.filter (fun j => decide (i + 1 ≤ j)) = [] ∧ r.filter (fun j => decide (j < i)) = r ∧ i ∉ r := fun ha => by
      refine ⟨List.filter_eq_nil_iff.2 fun x hx => ?_, List.filter_eq_nil_iff.2 fun x hx => ?_, List.filter_eq_self.2 fun x hx => ?_, fun hx => ?_⟩
      · have := h1 x hx; simp; omega
      · have := h1 x hx; simp; omega
      · have := h1 x hx; simp; omega
      · have := h1 i hx; omega
    rcases Nat.lt_trichotomy a i with ha | ha | ha
    · obtain ⟨e1, e2, e3, e4⟩ := hle (by omega)
      have hne : i ≠ a := by omega
      refine ⟨?_, fun hm => ?_⟩
      · rw [List.filter_cons_of_neg (by simp; omega), List.filter_cons_of_neg (by simp; omega), e1, e2, if_neg (by simp [hne, e4])]
        rfl
      · simp [hne, e4] at hm
    · subst ha
      obtain ⟨e1, e2, e3, e4⟩ := hle (by omega)
      refine ⟨?_, fun _ => ?_⟩
      · rw [List.filter_cons_of_pos (by simp), List.filter_cons_of_neg (by simp), e1, e2, if_pos (by simp)]
        rfl
      · rw [List.filter_cons_of_neg (by simp), List.filter_cons_of_neg (by simp), e2, e3]
        rfl
    · have hne : i ≠ a := by omega
      refine ⟨?_, fun hm => ?_⟩
      · rw [List.filter_cons_of_pos (by simp; omega), List.filter_cons_of_pos (by simp; omega), g1]
        by_cases hi : i ∈ r
        · rw [if_pos hi, if_pos (by simp [hi])]; rfl
        · rw [if_neg hi, if_neg (by simp [hi, hne])]; rfl
      · have hi : i ∈ r := by simpa [hne] using hm
        rw [List.filter_cons_of_pos (by simp; omega), List.filter_cons_of_neg (by simp; omega)]
        exact congrArg (a :: ·) (g2 hi)
theorem rev_desc (t : List Nd) (pat : Nat) : (Fm.below t pat).reverse.Pairwise (fun a b => b < a) := List.pairwise_reverse.2 (Ms.below_sorted t pat)
/-- What is told ahead of the numbers below k. -/
def pre (t : List Nd) (pat k : Nat) : List Nat := (Fm.below t pat).reverse.filter fun j => decide (k ≤ j)
theorem pre_top (t : List Nd) (pat : Nat) : pre t pat (pat + 1) = [] := by
  unfold pre
  refine List.filter_eq_nil_iff.2 fun x hx => ?_
  have := Ms.below_lt t pat x (by simpa using hx)
  simp
  omega
theorem pre_zero (t : List Nd) (pat : Nat) : pre t pat 0 = (Fm.below t pat).reverse := by
  unfold pre
  exact List.filter_eq_self.2 fun x _ => by simp
theorem pre_in {t : List Nd} {pat i : Nat} (h : i ∈ Fm.below t pat) : pre t pat i = pre t pat (i + 1) ++ [i] ∧ ∃ suf, (Fm.below t pat).reverse = pre t pat (i + 1) ++ i :: suf := by
  obtain ⟨g1, g2⟩ := desc_filter (rev_desc t pat) i
  rw [if_pos (by simpa using h)] at g1
  exact ⟨g1, _, g2 (by simpa using h)⟩
theorem pre_out {t : List Nd} {pat i : Nat} (h : i ∉ Fm.below t pat) : pre t pat i = pre t pat (i + 1) := by
  obtain ⟨g1, _⟩ := desc_filter (rev_desc t pat) i
  rw [if_neg (by simpa using h), List.append_nil] at g1
  exact g1
theorem mstep_names {t : List Nd} {s : Mst} {i : Nat} (h : s.2.2 = true) : (mstep t s i).2.1.map (·.1) = s.2.1.map (·.1) ++ (if (Ms.row t i).k = 1 then [(Ms.row t i).s] else []) := by
  unfold mstep
  rw [if_pos h]
  by_cases h1 : (Ms.row t i).k = 1
  · rw [if_pos h1, if_pos h1]; simp
  · rw [if_neg h1, if_neg h1]
    repeat' split
    all_goals simp
theorem mrun_names {t : List Nd} {pat : Nat} {id : Int} : ∀ (n : Nat) (l : List Nat), l.length = n → (mrun t l pat id).2.2 = true → (mrun t l pat id).2.1.map (·.1) = (l.filter fun i => decide ((Ms.row t i).k = 1)).map fun i => (Ms.row t i).s
  | 0, l, hl, _ => by
    have := List.eq_nil_of_length_eq_zero hl
    subst this
    rfl
  | n + 1, l, hl, hg => by
    rcases List.eq_nil_or_concat l with rfl | ⟨r, i, rfl⟩
    · simp at hl
    · rw [List.concat_eq_append] at *
      have hr := mrun_good (pre := r) (suf := [i]) hg
      have ih := mrun_names n r (by simpa using hl) hr
      rw [mrun_snoc, mstep_names hr, ih, List.filter_append, List.map_append]
      by_cases h1 : (Ms.row t i).k = 1
      · rw [if_pos h1, List.filter_cons_of_pos (p := fun i => decide ((Ms.row t i).k = 1)) (a := i) (by exact decide_eq_true h1)]; rfl
      · rw [if_neg h1, List.filter_cons_of_neg (p := fun i => decide ((Ms.row t i).k = 1)) (a := i) (by rw [decide_eq_false h1]; simp)]; rfl
theorem atom_inj {t : List Nd} (h : Fm.Ok t) {a b : Nat} (la : a < t.length) (lb : b < t.length) (ka : (Ms.row t a).k = 1) (kb : (Ms.row t b).k = 1) (e' : (Ms.row t a).s = (Ms.row t b).s) : a = b := by
  refine Sb.row_inj h la lb ?_
  rcases Sb.row_kind h la with r | r | r
  · rcases Sb.row_kind h lb with q | q | q
    · generalize Ms.row t a = x at *
      generalize Ms.row t b = z at *
      obtain ⟨xk, xs, xl, xr⟩ := x
      obtain ⟨zk, zs, zl, zr⟩ := z
      simp only at r q e'
      obtain ⟨rfl, _, rfl, rfl, _⟩ := r
      obtain ⟨rfl, _, rfl, rfl, _⟩ := q
      rw [e']
    · rw [q.1] at kb; cases kb
    · exact absurd kb q.2.1
  · rw [r.1] at ka; cases ka
  · exact absurd ka r.2.1
/-- An atom's name is none that was told. -/
theorem told_new {t : List Nd} (h : Fm.Ok t) {pat : Nat} (hp : pat < t.length) {id : Int} {i : Nat} (hi : i ∈ Fm.below t pat) (h1 : (Ms.row t i).k = 1) (hg : (mrun t (pre t pat (i + 1)) pat id).2.2 = true) : Sb.look (mrun t (pre t pat (i + 1)) pat id).2.1 (Ms.row t i).s = none := by
  cases hq : Sb.look (mrun t (pre t pat (i + 1)) pat id).2.1 (Ms.row t i).s with
  | none => rfl
  | some f =>
    have hm := (look_isSome _ _).1 (by rw [hq]; rfl)
    rw [mrun_names _ _ rfl hg] at hm
    obtain ⟨j, hj, e⟩ := List.mem_map.1 hm
    obtain ⟨hj1, hj2⟩ := List.mem_filter.1 hj
    unfold pre at hj1
    obtain ⟨hj3, hj4⟩ := List.mem_filter.1 hj1
    have lj := Ms.below_lt t pat j (by simpa using hj3)
    have li := Ms.below_lt t pat i hi
    have := atom_inj h (a := j) (b := i) (by omega) (by omega) (by simpa using hj2) h1 e
    simp at hj4
    omega
/-- A name and its formula put into a row that rises. -/
def insH (x : Hp) : Hs → Hs
  | [] => [x]
  | y :: l => if x.1.toList < y.1.toList then x :: y :: l else y :: insH x l
theorem insH_perm (x : Hp) : ∀ l : Hs, (insH x l).Perm (l ++ [x])
  | [] => List.Perm.refl _
  | y :: l => by
    unfold insH
    split
    · exact (List.perm_append_comm (l₁ := [x]) (l₂ := y :: l))
    · exact (insH_perm x l).cons y
theorem insH_srt (x : Hp) : ∀ l : Hs, Srt l → (∀ y ∈ l, y.1 ≠ x.1) → Srt (insH x l)
  | [], _, _ => by unfold insH Srt; simp
  | y :: l, h, hn => by
    have h' : (∀ z ∈ l, y.1.toList < z.1.toList) ∧ l.Pairwise fun a b => a.1.toList < b.1.toList := List.pairwise_cons.1 h
    unfold insH
    split
    · rename_i hlt
      refine List.pairwise_cons.2 ⟨fun z hz => ?_, h⟩
      rcases List.mem_cons.1 hz with rfl | hz
      · exact hlt
      · exact List.lt_trans hlt (h'.1 z hz)
    · rename_i hge
      refine List.pairwise_cons.2 ⟨fun z hz => ?_, insH_srt x l h'.2 fun z hz => hn z (by simp [hz])⟩
      rcases List.mem_append.1 ((insH_perm x l).mem_iff.1 hz) with hz | hz
      · exact h'.1 z hz
      · simp at hz
        subst hz
        have hne : y.1.toList ≠ z.1.toList := fun e => hn y (by simp) (ByteArray.ext (Array.ext' (by rw [ByteArray.toList_eq, ByteArray.toList_eq] at e; exact e)))
        rcases List.le_iff_lt_or_eq.1 (List.not_lt.1 hge) with h1 | h1
        · exact h1
        · exact absurd h1 hne
/-- What a round of the document's Match does. -/
theorem mref_in {t : List Nd} (h : Fm.Ok t) {pat : Nat} (hp : pat < t.length) {id : Int} {i : Nat} (hi : i ∈ Fm.below t pat) (hT : Sb.Told t pat id (pre t pat (i + 1)) (mrun t (pre t pat (i + 1)) pat id)) :
    (∃ x, (mrun t (pre t pat (i + 1)) pat id).1 i = some x ∧ Fm.has t x = true) ∧ mrun t (pre t pat i) pat id = mstep t (mrun t (pre t pat (i + 1)) pat id) i ∧
    ((mstep t (mrun t (pre t pat (i + 1)) pat id) i).2.2 = true → Sb.Told t pat id (pre t pat i) (mrun t (pre t pat i) pat id)) ∧ ((mstep t (mrun t (pre t pat (i + 1)) pat id) i).2.2 = false → (mrun t (Fm.below t pat).reverse pat id).2.2 = false) := by
  obtain ⟨e1, suf, e2⟩ := pre_in hi
  obtain ⟨x, hx⟩ := told_some h hp e2 hT
  have e3 : mrun t (pre t pat i) pat id = mstep t (mrun t (pre t pat (i + 1)) pat id) i := by rw [e1, mrun_snoc]
  refine ⟨⟨x, hx, (hT.in_ i x hx).1⟩, e3, fun hg => ?_, fun hb => ?_⟩
  · rw [e3, e1]
    exact told_step h hp e2 hT hg
  · cases hq : (mrun t (Fm.below t pat).reverse pat id).2.2 with
    | false => rfl
    | true =>
      rw [e2, show pre t pat (i + 1) ++ i :: suf = (pre t pat (i + 1) ++ [i]) ++ suf from by simp] at hq
      have := mrun_good hq
      rw [mrun_snoc, hb] at this
      cases this
theorem mref_out {t : List Nd} {pat : Nat} {id : Int} {i : Nat} (hi : i ∉ Fm.below t pat) (hT : Sb.Told t pat id (pre t pat (i + 1)) (mrun t (pre t pat (i + 1)) pat id)) :
    (mrun t (pre t pat (i + 1)) pat id).1 i = none ∧ pre t pat i = pre t pat (i + 1) := by
  refine ⟨?_, pre_out hi⟩
  cases hq : (mrun t (pre t pat (i + 1)) pat id).1 i with
  | none => rfl
  | some x => exact absurd (hT.in_ i x hq).2 hi
end Go.Proofs.Ythfedlodikbdgaa

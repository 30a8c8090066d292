/-
  Formulas as trees; what is put in, twice and once; what changes nothing. No condition.
-/
import Derived.Test.YthfedlodikbdgaaULaw
namespace Go.Proofs.Ythfedlodikbdgaa.Sb
open Fm (Nd)
open Ms (row row_at)

theorem size0 {s : ByteArray} (h : s.size = 0) : s = ⟨#[]⟩ := by
  obtain ⟨⟨l⟩⟩ := s
  cases l with
  | nil => rfl
  | cons a l => simp [ByteArray.size] at h
theorem mem_row {t : List Nd} {i : Nat} (h : i < t.length) : row t i ∈ t := by rw [row_at h]; exact List.getElem_mem h
theorem row_inj {t : List Nd} (h : Fm.Ok t) {i j : Nat} (hi : i < t.length) (hj : j < t.length) (e : row t i = row t j) : i = j := by
  rw [row_at hi, row_at hj] at e
  rcases Nat.lt_trichotomy i j with hlt | he | hlt
  · exact absurd e (List.pairwise_iff_getElem.1 h.nd i j hi hj hlt)
  · exact he
  · exact absurd e.symm (List.pairwise_iff_getElem.1 h.nd j i hj hi hlt)
theorem idx_row {t : List Nd} (h : Fm.Ok t) {i : Nat} (hi : i < t.length) : t.idxOf (row t i) = i := by
  have hlt := List.idxOf_lt_length_iff.2 (mem_row hi)
  refine row_inj h hlt hi ?_
  rw [row_at hlt]
  exact List.getElem_idxOf hlt
/-- The kinds of a row, and what else it holds. -/
theorem row_kind {t : List Nd} (h : Fm.Ok t) {i : Nat} (hi : i < t.length) :
    ((row t i).k = 1 ∧ Fm.jn (row t i).k = false ∧ (row t i).l = 0 ∧ (row t i).r = 0 ∧ Fm.word (row t i).s.data.toList = true) ∨ ((row t i).k = 2 ∧ Fm.jn (row t i).k = false ∧ (row t i).s = ⟨#[]⟩ ∧ (row t i).l = 0 ∧ (row t i).r = 0) ∨
    (Fm.jn (row t i).k = true ∧ (row t i).k ≠ 1 ∧ (row t i).k ≠ 2 ∧ (row t i).s = ⟨#[]⟩) := by
  have hc := h.chk i hi
  have hs := Fm.check_shaped hc
  rw [← row_at hi] at hc hs
  generalize row t i = n at *
  unfold Fm.shaped at hs
  by_cases h1 : n.k = 1
  · rw [if_pos h1] at hs
    simp only [Bool.and_eq_true, beq_iff_eq] at hs
    unfold Fm.check at hc
    have hs' : Fm.shaped (t.take i) n = true := by unfold Fm.shaped; rw [if_pos h1]; simp [hs]
    rw [if_pos hs', if_pos h1] at hc
    refine Or.inl ⟨h1, by rw [h1]; rfl, hs.1, hs.2, ?_⟩
    cases hw : Fm.word n.s.data.toList
    · rw [hw] at hc; simp at hc
    · rfl
  · rw [if_neg h1] at hs
    by_cases h2 : n.k = 2
    · rw [if_pos h2] at hs
      simp only [Bool.and_eq_true, beq_iff_eq] at hs
      exact Or.inr (Or.inl ⟨h2, by rw [h2]; rfl, size0 hs.1.1, hs.1.2, hs.2⟩)
    · rw [if_neg h2] at hs
      by_cases hj : Fm.jn n.k = true
      · rw [if_pos hj] at hs
        simp only [Bool.and_eq_true, beq_iff_eq] at hs
        exact Or.inr (Or.inr ⟨hj, h1, h2, size0 hs.1.1⟩)
      · rw [if_neg hj] at hs
        cases hs
theorem check_ext {t u : List Nd} {n : Nd} (h : Fm.check t n = 0) (hl : t.length ≤ u.length) : Fm.check u n = 0 := by
  have hs := Fm.shaped_mono (Fm.check_shaped h) hl
  unfold Fm.check at h ⊢
  rw [if_pos hs]
  rw [if_pos (Fm.check_shaped h)] at h
  exact h
theorem check_row {t : List Nd} (h : Fm.Ok t) {i : Nat} (hi : i < t.length) : Fm.check t (row t i) = 0 := by
  rw [row_at hi]
  exact check_ext (h.chk i hi) (by simp; omega)
/-- A row that is there is put: its number. -/
theorem put_self {t : List Nd} (h : Fm.Ok t) {i : Nat} (hi : i < t.length) : Fm.put t (row t i) = ((i : Int), 0, t) := by
  unfold Fm.put
  rw [if_pos (check_row h hi), if_pos (mem_row hi), idx_row h hi]
theorem put_row {t : List Nd} {n : Nd} (h : (Fm.put t n).2.1 = 0) : row (Fm.put t n).2.2 (Fm.put t n).1.toNat = n := by
  unfold Fm.put at h ⊢
  split
  · rename_i hc
    rw [if_pos hc] at h
    split
    · rename_i hm
      have hlt := List.idxOf_lt_length_iff.2 hm
      show row t (t.idxOf n) = n
      rw [row_at hlt]
      exact List.getElem_idxOf hlt
    · rename_i hm
      rw [if_neg hm] at h
      split
      · rename_i hl; rw [if_pos hl] at h; simp at h
      · show row (t ++ [n]) t.length = n
        rw [row_at (by simp)]
        simp
  · rename_i hc
    rw [if_neg hc] at h
    exact absurd h hc
theorem rowI_at {t : List Nd} (h : Fm.Ok t) {i : Nat} (hi : i < t.length) (im : Nat → Int) : Fm.jn (row t i).k = true → rowI t im i = ⟨(row t i).k, ⟨#[]⟩, im (row t i).l.toNat, im (row t i).r.toNat⟩ := fun hj => by
  unfold rowI
  rw [if_pos hj]
  rcases row_kind h hi with h' | h' | h'
  · rw [h'.2.1] at hj; cases hj
  · rw [h'.2.1] at hj; cases hj
  · rw [h'.2.2.2]
theorem rowI_self {t : List Nd} {i : Nat} {im : Nat → Int} (him : Fm.jn (row t i).k = true → im (row t i).l.toNat = (row t i).l ∧ im (row t i).r.toNat = (row t i).r) : rowI t im i = row t i := by
  unfold rowI
  split
  · rename_i hj
    rw [(him hj).1, (him hj).2]
  · rfl
/-- Images that are all there: nothing is put. -/
theorem run_fix {t : List Nd} (h : Fm.Ok t) {id : Nat} (hid : id < t.length) {F : List Nd → Nat → Nd → Img} (y : Nat → Int) (hy : ∀ i ∈ Fm.below t id, F t i (rowI t y i) = (y i, 0, t)) :
    (run F (Fm.below t id) t).2 = (0, t) ∧ ∀ j ∈ Fm.below t id, (run F (Fm.below t id) t).1 j = y j := by
  have key : ∀ (suf pre : List Nat), Fm.below t id = pre ++ suf → (run F pre t).2 = (0, t) → (∀ j ∈ pre, (run F pre t).1 j = y j) → (run F (pre ++ suf) t).2 = (0, t) ∧ ∀ j ∈ pre ++ suf, (run F (pre ++ suf) t).1 j = y j := by
    intro suf
    induction suf with
    | nil => intro pre _ h0 hp; rw [List.append_nil]; exact ⟨h0, hp⟩
    | cons i suf ih =>
      intro pre e h0 hp
      have e' : pre ++ i :: suf = (pre ++ [i]) ++ suf := by simp
      rw [e']
      have hi : i ∈ Fm.below t id := by rw [e]; simp
      have hs : run F (pre ++ [i]) t = (updI (run F pre t).1 i (y i), 0, t) := by
        rw [run_snoc]
        generalize run F pre t = s at *
        obtain ⟨im, er, t1⟩ := s
        simp only [Prod.mk.injEq] at h0
        obtain ⟨rfl, rfl⟩ := h0
        have e2 : rowI t1 im i = rowI t1 y i := by
          unfold rowI
          split
          · rename_i hj
            obtain ⟨a, c⟩ := pre_parts h hid e hj
            have h1 := hp _ a
            have h2 := hp _ c
            simp only at h1 h2
            rw [h1, h2]
          · rfl
        unfold step
        rw [if_pos rfl]
        simp only
        rw [e2, hy i hi]
        rfl
      refine ih (pre ++ [i]) (by rw [e, e']) (by rw [hs]) ?_
      intro j hj
      rw [hs]
      show updI _ i (y i) j = y j
      unfold updI
      by_cases ej : j = i
      · rw [if_pos ej, ej]
      · rw [if_neg ej]
        refine hp j ?_
        rcases List.mem_append.1 hj with h' | h'
        · exact h'
        · simp at h'; exact absurd h' ej
  have := key (Fm.below t id) [] rfl rfl (fun j hj => by cases hj)
  rw [List.nil_append] at this
  exact this
theorem anew_fix {t : List Nd} (h : Fm.Ok t) {id : Nat} (hid : id < t.length) {F : List Nd → Nat → Nd → Img} (y : Nat → Int) (hy : ∀ i ∈ Fm.below t id, F t i (rowI t y i) = (y i, 0, t)) : anew F t id = (y id, 0, t) := by
  obtain ⟨h1, h2⟩ := run_fix h hid y hy
  unfold anew
  rw [if_pos (by rw [h1]), h1, h2 id below_self]
theorem anew_self {t : List Nd} (h : Fm.Ok t) {id : Nat} (hid : id < t.length) {F : List Nd → Nat → Nd → Img} (hy : ∀ i ∈ Fm.below t id, F t i (row t i) = ((i : Int), 0, t)) : anew F t id = ((id : Int), 0, t) := by
  refine anew_fix h hid (fun i => (i : Int)) fun i hi => ?_
  have hlt : i < t.length := by have := Ms.below_lt t id i hi; omega
  rw [rowI_self (fun hj => by have := Ms.parts_lt h hlt hj; exact ⟨by omega, by omega⟩)]
  exact hy i hi

/-! ### trees -/
inductive Tree
  | a (s : ByteArray)
  | b
  | j (k : Int) (l r : Tree)
def tr (t : List Nd) : Nat → Nat → Tree
  | 0, _ => .b
  | n + 1, i => if Fm.jn (row t i).k then .j (row t i).k (tr t n (row t i).l.toNat) (tr t n (row t i).r.toNat) else if (row t i).k = 1 then .a (row t i).s else .b
def T (t : List Nd) (i : Nat) : Tree := tr t (i + 1) i
theorem tr_fuel {t : List Nd} (h : Fm.Ok t) : ∀ (n m i : Nat), i < t.length → i < n → i < m → tr t n i = tr t m i
  | 0, _, _, _, h1, _ => absurd h1 (by omega)
  | _ + 1, 0, _, _, _, h2 => absurd h2 (by omega)
  | n + 1, m + 1, i, hi, h1, h2 => by
    unfold tr
    split
    · rename_i hj
      have hp := Ms.parts_lt h hi hj
      rw [tr_fuel h n m _ (by omega) (by omega) (by omega), tr_fuel h n m (row t i).r.toNat (by omega) (by omega) (by omega)]
    · rfl
theorem T_eq {t : List Nd} (h : Fm.Ok t) {i : Nat} (hi : i < t.length) : T t i = if Fm.jn (row t i).k then .j (row t i).k (T t (row t i).l.toNat) (T t (row t i).r.toNat) else if (row t i).k = 1 then .a (row t i).s else .b := by
  unfold T
  rw [tr]
  split
  · rename_i hj
    have hp := Ms.parts_lt h hi hj
    rw [tr_fuel h i ((row t i).l.toNat + 1) _ (by omega) (by omega) (by omega), tr_fuel h i ((row t i).r.toNat + 1) _ (by omega) (by omega) (by omega)]
  · rfl
theorem ok_ext {t u : List Nd} (h : Fm.Ok (t ++ u)) : Fm.Ok t := by
  have := Fm.ok_take h t.length
  rwa [List.take_left] at this
theorem T_ext {t u : List Nd} (h : Fm.Ok (t ++ u)) : ∀ (n i : Nat), i < n → i < t.length → T (t ++ u) i = T t i
  | 0, _, hn, _ => absurd hn (by omega)
  | n + 1, i, hn, hi => by
    have h0 := ok_ext h
    rw [T_eq h (by rw [List.length_append]; omega), T_eq h0 hi, row_ext hi]
    split
    · rename_i hj
      have hp := Ms.parts_lt h0 hi hj
      rw [T_ext h n _ (by omega) (by omega), T_ext h n _ (by omega) (by omega)]
    · rfl
theorem T_inj {t : List Nd} (h : Fm.Ok t) : ∀ (n i j : Nat), i < n → i < t.length → j < t.length → T t i = T t j → i = j
  | 0, _, _, hn, _, _, _ => absurd hn (by omega)
  | n + 1, i, j, hn, hi, hj, e => by
    rw [T_eq h hi, T_eq h hj] at e
    refine row_inj h hi hj ?_
    rcases row_kind h hi with a | a | a <;> rcases row_kind h hj with c | c | c
    · rw [a.2.1, c.2.1, a.1, c.1] at e
      simp only [Bool.false_eq_true, if_false, if_true, Tree.a.injEq] at e
      generalize row t i = x at *
      generalize row t j = y at *
      obtain ⟨k, s, l, r⟩ := x
      obtain ⟨k', s', l', r'⟩ := y
      simp only at a c e
      obtain ⟨rfl, _, rfl, rfl, _⟩ := a
      obtain ⟨rfl, _, rfl, rfl, _⟩ := c
      rw [e]
    · rw [a.2.1, c.2.1, a.1, c.1] at e; simp at e
    · rw [a.2.1, c.1, a.1] at e; simp at e
    · rw [a.2.1, c.2.1, a.1, c.1] at e; simp at e
    · generalize row t i = x at *
      generalize row t j = y at *
      obtain ⟨k, s, l, r⟩ := x
      obtain ⟨k', s', l', r'⟩ := y
      simp only at a c
      obtain ⟨rfl, _, rfl, rfl, rfl⟩ := a
      obtain ⟨rfl, _, rfl, rfl, rfl⟩ := c
      rfl
    · rw [a.2.1, c.1, a.1] at e; simp at e
    · rw [a.1, c.2.1, c.1] at e; simp at e
    · rw [a.1, c.2.1, c.1] at e; simp at e
    · rw [a.1, c.1] at e
      simp only [if_true, Tree.j.injEq] at e
      have hp := Ms.parts_lt h hi a.1
      have hq := Ms.parts_lt h hj c.1
      have e1 := T_inj h n _ _ (by omega) (by omega) (by omega) e.2.1
      have e2 := T_inj h n _ _ (by omega) (by omega) (by omega) e.2.2
      generalize row t i = x at *
      generalize row t j = y at *
      obtain ⟨k, s, l, r⟩ := x
      obtain ⟨k', s', l', r'⟩ := y
      simp only at a c e e1 e2 hp hq
      obtain ⟨_, _, _, rfl⟩ := a
      obtain ⟨_, _, _, rfl⟩ := c
      have h1 : l = l' := by omega
      have h2 : r = r' := by omega
      rw [e.1, h1, h2]
def sub (σ : ByteArray → Option Tree) : Tree → Tree
  | .a s => (σ s).getD (.a s)
  | .b => .b
  | .j k l r => .j k (sub σ l) (sub σ r)
def Words (l : Hs) : Prop := ∀ h ∈ l, Fm.word h.1.data.toList = true
theorem look_empty {l : Hs} (h : Words l) : look l ⟨#[]⟩ = none := by
  cases e : look l ⟨#[]⟩ with
  | none => rfl
  | some f =>
    have := h _ (look_mem e)
    exact absurd this (by simp [Fm.word])
/-- What Put makes, as a tree. -/
theorem put_tree {t : List Nd} (h : Fm.Ok t) {id : Nat} (hid : id < t.length) {l : Hs} (hW : Words l) (hl : ∀ h ∈ l, Fm.has t h.2 = true) (hok : (anew (putF l) t id).2.1 = 0) :
    Fm.Ok (anew (putF l) t id).2.2 ∧ (∃ u, (anew (putF l) t id).2.2 = t ++ u) ∧ Fm.has (anew (putF l) t id).2.2 (anew (putF l) t id).1 = true ∧
    T (anew (putF l) t id).2.2 (anew (putF l) t id).1.toNat = sub (fun s => (look l s).map fun f => T t f.toNat) (T t id) := by
  have hF := putF_fair (by_ := l) hl
  have hlt : ∀ i ∈ Fm.below t id, i < t.length := fun i hi => by have := Ms.below_lt t id i hi; omega
  have hR := runs_run h (by omega) hF (Fm.below t id) hlt
  have hok' : (run (putF l) (Fm.below t id) t).2.1 = 0 := by
    unfold anew at hok
    by_cases e : (run (putF l) (Fm.below t id) t).2.1 = 0
    · exact e
    · rw [if_neg e] at hok; exact hok
  have hP := run_ind h hid hF (fun t1 i x => Fm.Ok t1 → Fm.has t1 x = true ∧ T t1 x.toNat = sub (fun s => (look l s).map fun f => T t f.toNat) (T t i)) (by
    intro t1 u i x hp ho
    obtain ⟨h1, h2⟩ := hp (ok_ext ho)
    refine ⟨has_ext h1, ?_⟩
    rw [T_ext ho (x.toNat + 1) _ (by omega) (by have := Fm.has_iff.1 h1; omega)]
    exact h2) (by
    intro t1 im i hR1 hi hib hparts he ho
    obtain ⟨u, hu⟩ := hR1.ext
    have hu' : t1 = t ++ u := hu
    have hok1 : Fm.Ok t1 := hR1.ok
    have hi1 : i < t1.length := by rw [hu', List.length_append]; omega
    have hrow : row t1 i = row t i := by rw [hu']; exact row_ext hi
    rw [T_eq h hi]
    rcases row_kind h hi with a | a | a
    · have hri : rowI t1 im i = row t i := by unfold rowI; rw [hrow, if_neg (by rw [a.2.1]; simp)]
      rw [hri] at he ho ⊢
      rw [if_neg (by rw [a.2.1]; simp), if_pos a.1]
      unfold putF at he ho ⊢
      cases hlk : look l (row t i).s with
      | none =>
        rw [← hrow, put_self hok1 hi1]
        simp only
        refine ⟨Fm.has_iff.2 ⟨by omega, by omega⟩, ?_⟩
        rw [Int.toNat_natCast, T_eq hok1 hi1, hrow, if_neg (by rw [a.2.1]; simp), if_pos a.1]
        unfold sub
        rw [hlk]
        rfl
      | some f =>
        have hf := hl _ (look_mem hlk)
        simp only
        refine ⟨by rw [hu']; exact has_ext hf, ?_⟩
        unfold sub
        rw [hlk]
        show T t1 f.toNat = T t f.toNat
        rw [hu'] at hok1 ⊢
        exact T_ext hok1 (f.toNat + 1) _ (by omega) (by have := Fm.has_iff.1 hf; simp only at this; omega)
    · have hri : rowI t1 im i = row t i := by unfold rowI; rw [hrow, if_neg (by rw [a.2.1]; simp)]
      rw [hri] at he ho ⊢
      rw [if_neg (by rw [a.2.1]; simp), if_neg (by rw [a.1]; decide)]
      unfold putF at he ho ⊢
      have hlk : look l (row t i).s = none := by rw [a.2.2.1]; exact look_empty hW
      rw [hlk]
      simp only
      rw [← hrow, put_self hok1 hi1]
      simp only
      refine ⟨Fm.has_iff.2 ⟨by omega, by omega⟩, ?_⟩
      rw [Int.toNat_natCast, T_eq hok1 hi1, hrow, if_neg (by rw [a.2.1]; simp), if_neg (by rw [a.1]; decide)]
      rfl
    · have hri : rowI t1 im i = ⟨(row t i).k, ⟨#[]⟩, im (row t i).l.toNat, im (row t i).r.toNat⟩ := by rw [rowI_at hok1 hi1 im (by rw [hrow]; exact a.1), hrow]
      rw [hri] at he ho ⊢
      rw [if_pos a.1]
      obtain ⟨hp1, hp2⟩ := hparts a.1
      unfold putF at he ho ⊢
      rw [show look l (Nd.mk (row t i).k ⟨#[]⟩ (im (row t i).l.toNat) (im (row t i).r.toNat)).s = none from look_empty hW] at he ho ⊢
      simp only at he ho ⊢
      have hh := put_has he
      have hr := put_row he
      obtain ⟨v, hv⟩ := (Fm.put_len t1 ⟨(row t i).k, ⟨#[]⟩, im (row t i).l.toNat, im (row t i).r.toNat⟩).2
      refine ⟨hh, ?_⟩
      rw [T_eq ho (by have := Fm.has_iff.1 hh; omega), hr]
      simp only
      rw [if_pos a.1]
      have g1 := hp1 hok1
      have g2 := hp2 hok1
      have b1 := Fm.has_iff.1 g1.1
      have b2 := Fm.has_iff.1 g2.1
      rw [hv] at ho ⊢
      rw [T_ext ho _ _ (Nat.lt_succ_self _) (by omega), T_ext ho _ _ (Nat.lt_succ_self _) (by omega), g1.2, g2.2]
      rfl) hok' id below_self
  have hP' := hP hR.ok
  unfold anew at hok ⊢
  rw [if_pos hok']
  exact ⟨hR.ok, hR.ext, hP'.1, hP'.2⟩
end Go.Proofs.Ythfedlodikbdgaa.Sb

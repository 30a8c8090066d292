/-
  Plain mathematics of tables of formulas: names, rows, what Put, Not, From, Cut and Below answer. No condition.
-/
namespace Go.Proofs.YtkpbpecikibohaaDoor.Fm

structure Nd where
  k : Int
  s : ByteArray
  l : Int
  r : Int
deriving DecidableEq
def z : Nd := ⟨0, ⟨#[]⟩, 0, 0⟩
def i64 (x : Int) : Prop := -9223372036854775808 ≤ x ∧ x ≤ 9223372036854775807
def good (n : Nd) : Prop := i64 n.k ∧ n.s.size ≤ 140737488351232 ∧ i64 n.l ∧ i64 n.r
def isL (c : UInt8) : Bool := (97 ≤ c && c ≤ 122) || (65 ≤ c && c ≤ 90)
def inN (c : UInt8) : Bool := isL c || (48 ≤ c && c ≤ 57) || c == 95 || c == 39
def takens : List (List UInt8) := [[97, 98, 111, 114, 116], [99, 97, 115, 101], [102, 97, 108, 115, 101], [102, 115, 116], [102, 117, 110], [105, 110], [105, 110, 108], [105, 110, 114], [108, 101, 116], [111, 102], [115, 110, 100], [116, 114, 117, 101]]
def word (l : List UInt8) : Bool := l.length != 0 && decide (l.length ≤ 31) && isL (l.headD 0) && l.tail.all inN && !takens.contains l
def has (t : List Nd) (i : Int) : Bool := decide (0 ≤ i) && decide (i < t.length)
def jn (k : Int) : Bool := k == 3 || k == 4 || k == 5
def shaped (t : List Nd) (n : Nd) : Bool :=
  if n.k = 1 then n.l == 0 && n.r == 0
  else if n.k = 2 then n.s.size == 0 && n.l == 0 && n.r == 0
  else if jn n.k then n.s.size == 0 && has t n.l && has t n.r
  else false
def check (t : List Nd) (n : Nd) : Int :=
  if shaped t n then (if n.k = 1 then (if word n.s.data.toList then 0 else 32) else 0) else 31
def put (t : List Nd) (n : Nd) : Int × Int × List Nd :=
  if check t n = 0 then (if n ∈ t then ((t.idxOf n : Int), 0, t) else if 1024 ≤ t.length then (0, 30, t) else ((t.length : Int), 0, t ++ [n]))
  else (0, check t n, t)
def bot : Nd := ⟨2, ⟨#[]⟩, 0, 0⟩
def notp (t : List Nd) (a : Int) : Int × Int × List Nd :=
  if has t a then (if (put t bot).2.1 = 0 then put (put t bot).2.2 ⟨5, ⟨#[]⟩, a, (put t bot).1⟩ else (0, (put t bot).2.1, (put t bot).2.2)) else (0, 31, t)
def fr (t : List Nd) : List Nd → Int × List Nd
  | [] => (0, t)
  | n :: r => if (put t n).2.1 = 0 then (if (put t n).1 = t.length then fr (put t n).2.2 r else (31, [])) else ((put t n).2.1, [])

structure Ok (t : List Nd) : Prop where
  len : t.length ≤ 1024
  nd : t.Nodup
  chk : ∀ i (h : i < t.length), check (t.take i) t[i] = 0
  gd : ∀ n ∈ t, good n

theorem ok_nil : Ok [] := ⟨by simp, List.nodup_nil, fun i h => by simp at h, fun n h => by cases h⟩
theorem good_join (k a b : Int) (hk : i64 k) (ha : i64 a) (hb : i64 b) : good ⟨k, ⟨#[]⟩, a, b⟩ := ⟨hk, Nat.zero_le _, ha, hb⟩
theorem i64_small {x : Int} (h0 : 0 ≤ x) (h1 : x ≤ 1024) : i64 x := ⟨by omega, by omega⟩
theorem good_bot : good bot := good_join 2 0 0 (i64_small (by omega) (by omega)) (i64_small (by omega) (by omega)) (i64_small (by omega) (by omega))
theorem has_iff {t : List Nd} {i : Int} : has t i = true ↔ 0 ≤ i ∧ i < t.length := by simp [has]
theorem ok_put {t : List Nd} (h : Ok t) {n : Nd} (hn : good n) : Ok (put t n).2.2 := by
  unfold put
  split
  · rename_i hc
    split
    · exact h
    · rename_i hm
      split
      · exact h
      · rename_i hl
        refine ⟨by simp; omega, ?_, ?_, ?_⟩
        · rw [List.nodup_append]
          exact ⟨h.nd, by simp, fun a ha b hb e => by simp at hb; subst e; subst hb; exact hm ha⟩
        · intro i hi
          by_cases hlt : i < t.length
          · have e : (t ++ [n]).take i = t.take i := by rw [List.take_append_of_le_length (by omega)]
            rw [show (t ++ [n], 0).1.take i = t.take i from e]
            have e2 : (t ++ [n])[i]'hi = t[i] := List.getElem_append_left hlt
            show check (t.take i) ((t ++ [n])[i]'hi) = 0
            rw [e2]
            exact h.chk i hlt
          · simp at hi
            have hi2 : i = t.length := by omega
            subst hi2
            show check ((t ++ [n]).take t.length) ((t ++ [n])[t.length]'(by simp)) = 0
            rw [List.take_left]
            simpa using hc
        · intro x hx
          rcases List.mem_append.1 hx with hx | hx
          · exact h.gd x hx
          · simp at hx; subst hx; exact hn
  · exact h
theorem put_err {t : List Nd} {n : Nd} (h : (put t n).2.1 ≠ 0) : (put t n).2.2 = t ∧ (put t n).1 = 0 := by
  unfold put at *
  split
  · rename_i hc
    rw [if_pos hc] at h
    split
    · rename_i hm; rw [if_pos hm] at h; exact absurd rfl h
    · rename_i hm
      rw [if_neg hm] at h
      split
      · exact ⟨rfl, rfl⟩
      · rename_i hl; rw [if_neg hl] at h; exact absurd rfl h
  · exact ⟨rfl, rfl⟩
theorem put_len (t : List Nd) (n : Nd) : t.length ≤ (put t n).2.2.length ∧ ∃ u, (put t n).2.2 = t ++ u := by
  unfold put
  split
  · split
    · exact ⟨Nat.le_refl _, [], by simp⟩
    · split
      · exact ⟨Nat.le_refl _, [], by simp⟩
      · exact ⟨by simp, [n], rfl⟩
  · exact ⟨Nat.le_refl _, [], by simp⟩
theorem put_id {t : List Nd} (h : Ok t) (n : Nd) : 0 ≤ (put t n).1 ∧ (put t n).1 ≤ 1024 := by
  have := h.len
  unfold put
  split
  · split
    · rename_i hm
      have h2 := List.idxOf_lt_length_iff.2 hm
      refine ⟨by simp, ?_⟩
      show (List.idxOf n t : Int) ≤ 1024
      omega
    · split
      · exact ⟨by simp, by simp⟩
      · refine ⟨by simp, ?_⟩
        show (t.length : Int) ≤ 1024
        omega
  · exact ⟨by simp, by simp⟩
theorem check_vals (t : List Nd) (n : Nd) : check t n = 0 ∨ check t n = 31 ∨ check t n = 32 := by
  unfold check
  repeat' split
  all_goals simp
theorem put_errs (t : List Nd) (n : Nd) : (put t n).2.1 = 0 ∨ (put t n).2.1 = 30 ∨ (put t n).2.1 = 31 ∨ (put t n).2.1 = 32 := by
  have := check_vals t n
  unfold put
  repeat' split
  all_goals simp_all
theorem ok_notp {t : List Nd} (h : Ok t) {a : Int} (ha : i64 a) : Ok (notp t a).2.2 := by
  unfold notp
  split
  · have h1 := ok_put h good_bot
    split
    · have h2 := put_id h bot
      exact ok_put h1 (good_join 5 a _ (i64_small (by omega) (by omega)) ha (i64_small h2.1 h2.2))
    · exact h1
  · exact h
theorem ok_take {t : List Nd} (h : Ok t) (m : Nat) : Ok (t.take m) := by
  refine ⟨by have := h.len; simp; omega, h.nd.sublist (List.take_sublist m t), ?_, fun n hn => h.gd n (List.mem_of_mem_take hn)⟩
  intro i hi
  rw [List.length_take] at hi
  rw [List.take_take, Nat.min_eq_left (by omega), List.getElem_take]
  exact h.chk i (by omega)
theorem shaped_mono {t u : List Nd} {n : Nd} : shaped t n = true → t.length ≤ u.length → shaped u n = true := by
  intro h hl
  unfold shaped at *
  split
  · rename_i h1; rw [if_pos h1] at h; exact h
  · rename_i h1
    rw [if_neg h1] at h
    split
    · rename_i h2; rw [if_pos h2] at h; exact h
    · rename_i h2
      rw [if_neg h2] at h
      split
      · rename_i h3
        rw [if_pos h3] at h
        simp only [Bool.and_eq_true, has_iff] at h ⊢
        refine ⟨⟨h.1.1, h.1.2.1, by omega⟩, h.2.1, by omega⟩
      · rename_i h3; rw [if_neg h3] at h; exact h
theorem check_shaped {t : List Nd} {n : Nd} (h : check t n = 0) : shaped t n = true := by
  unfold check at h
  cases hs : shaped t n
  · rw [hs] at h; simp at h
  · rfl
theorem ok_kind {t : List Nd} (h : Ok t) {i : Nat} (hi : i < t.length) : t[i].k = 1 ∨ t[i].k = 2 ∨ jn t[i].k = true := by
  have := check_shaped (h.chk i hi)
  unfold shaped at this
  by_cases h1 : t[i].k = 1
  · exact Or.inl h1
  · by_cases h2 : t[i].k = 2
    · exact Or.inr (Or.inl h2)
    · rw [if_neg h1, if_neg h2] at this
      cases hj : jn t[i].k
      · rw [hj] at this; simp at this
      · exact Or.inr (Or.inr rfl)
theorem ok_parts {t : List Nd} (h : Ok t) {i : Nat} (hi : i < t.length) (hj : jn t[i].k = true) : (0 ≤ t[i].l ∧ t[i].l < i) ∧ 0 ≤ t[i].r ∧ t[i].r < i := by
  have := check_shaped (h.chk i hi)
  unfold shaped at this
  have h1 : t[i].k ≠ 1 := fun e => by rw [e] at hj; simp [jn] at hj
  have h2 : t[i].k ≠ 2 := fun e => by rw [e] at hj; simp [jn] at hj
  rw [if_neg h1, if_neg h2, if_pos hj] at this
  simp only [Bool.and_eq_true, has_iff, List.length_take] at this
  refine ⟨⟨this.1.2.1, ?_⟩, this.2.1, ?_⟩
  · have := this.1.2.2; omega
  · have := this.2.2; omega
theorem put_new {t : List Nd} {n : Nd} (hc : check t n = 0) (hm : n ∉ t) (hl : t.length < 1024) : put t n = ((t.length : Int), 0, t ++ [n]) := by
  unfold put
  rw [if_pos hc, if_neg hm, if_neg (by omega)]
theorem fr_ok {t : List Nd} (h : Ok t) : ∀ (m i : Nat), m = t.length - i → i ≤ t.length → fr (t.take i) (t.drop i) = (0, t)
  | 0, i, hm, hi => by
    have e : i = t.length := by omega
    subst e
    simp [fr]
  | m + 1, i, hm, hi => by
    have hlt : i < t.length := by omega
    rw [List.drop_eq_getElem_cons hlt]
    have hnm : t[i] ∉ t.take i := by
      intro hx
      obtain ⟨j, hj, e⟩ := List.mem_iff_getElem.1 hx
      simp at hj
      rw [List.getElem_take] at e
      have hpw := List.pairwise_iff_getElem.1 h.nd j i (by omega) hlt (by omega)
      exact hpw e
    have hp := put_new (h.chk i hlt) hnm (by have := h.len; simp; omega)
    unfold fr
    rw [hp]
    simp only [if_true]
    have e2 : t.take i ++ [t[i]] = t.take (i + 1) := by rw [List.take_succ_eq_append_getElem hlt]
    rw [e2]
    exact fr_ok h m (i + 1) (by omega) (by omega)
theorem fr_self {t : List Nd} (h : Ok t) : fr [] t = (0, t) := by
  have := fr_ok h t.length 0 (by omega) (by omega)
  simpa using this
theorem fr_zero {t u : List Nd} (r : List Nd) (h : Ok t) (hr : ∀ n ∈ r, good n) (hu : fr t r = (0, u)) : Ok u ∧ u = t ++ r := by
  induction r generalizing t with
  | nil => simp [fr] at hu; subst hu; exact ⟨h, by simp⟩
  | cons n r ih =>
    unfold fr at hu
    by_cases h1 : (put t n).2.1 = 0
    · rw [if_pos h1] at hu
      by_cases h2 : (put t n).1 = t.length
      · rw [if_pos h2] at hu
        have hgn := hr n (by simp)
        have h3 : (put t n).2.2 = t ++ [n] := by
          unfold put at h1 h2 ⊢
          split
          · rename_i hc
            rw [if_pos hc] at h1 h2
            split
            · rename_i hm
              rw [if_pos hm] at h2
              have := List.idxOf_lt_length_iff.2 hm
              simp at h2
              omega
            · rename_i hm
              rw [if_neg hm] at h1 h2
              split
              · rename_i hl; rw [if_pos hl] at h1; simp at h1
              · rfl
          · rename_i hc
            rw [if_neg hc] at h1
            exact absurd h1 hc
        obtain ⟨g1, g2⟩ := ih (ok_put h hgn) (fun x hx => hr x (by simp [hx])) hu
        exact ⟨g1, by rw [g2, h3]; simp⟩
      · rw [if_neg h2] at hu; simp at hu
    · rw [if_neg h1] at hu
      simp at hu
      exact absurd hu.1 h1

def upd (m : Nat → Bool) (i : Nat) : Nat → Bool := fun j => if j = i then true else m j
def mark (t : List Nd) : Nat → (Nat → Bool) → Nat → Bool
  | 0, m => m
  | i + 1, m => mark t i (if m i && jn (t.getD i z).k then upd (upd m (t.getD i z).l.toNat) (t.getD i z).r.toNat else m)
def below (t : List Nd) (i : Nat) : List Nat := (List.range (i + 1)).filter (mark t (i + 1) (upd (fun _ => false) i))
end Go.Proofs.YtkpbpecikibohaaDoor.Fm

/-
  Plain mathematics of tables of formulas: names, rows, what Put, Not, From, Cut and Below answer. No condition.
-/
import Derived.Test.YtcidldgenogdkaaGreatDoorProg
import Derived.WalkKit
import Derived.WalkLawsBesides
import Derived.WalkSpells
import Derived.ProofKit
import Derived.BigQuiet
import Derived.Laws.RangeAny
import Derived.Maps.OwnSet
import Derived.Maps.AppendAt
import Derived.DeepKeys4
import Derived.Deep.RegionLaw
namespace Go.Proofs.YtcidldgenogdkaaGreatDoor.Fm

/-- A row: its kind, its name, its two parts. -/
structure Nd where
  k : Int
  s : ByteArray
  l : Int
  r : Int
deriving DecidableEq
def z : Nd := ⟨0, ⟨#[]⟩, 0, 0⟩
def i64 (x : Int) : Prop := -9223372036854775808 ≤ x ∧ x ≤ 9223372036854775807
def good (n : Nd) : Prop := i64 n.k ∧ n.s.size ≤ 140737488351232 ∧ i64 n.l ∧ i64 n.r
def isL (c : UInt8) : Bool := (97 ≤ c && c ≤ 122) || (65 ≤ c && c ≤ 90)
def inN (c : UInt8) : Bool := isL c || (48 ≤ c && c ≤ 57) || c == 95 || c == 39
/-- The twelve words that are no names. -/
def takens : List (List UInt8) := [[97, 98, 111, 114, 116], [99, 97, 115, 101], [102, 97, 108, 115, 101], [102, 115, 116], [102, 117, 110], [105, 110], [105, 110, 108], [105, 110, 114], [108, 101, 116], [111, 102], [115, 110, 100], [116, 114, 117, 101]]
def word (l : List UInt8) : Bool := l.length != 0 && decide (l.length ≤ 31) && isL (l.headD 0) && l.tail.all inN && !takens.contains l
def has (t : List Nd) (i : Int) : Bool := decide (0 ≤ i) && decide (i < t.length)
def jn (k : Int) : Bool := k == 3 || k == 4 || k == 5
def shaped (t : List Nd) (n : Nd) : Bool :=
  if n.k = 1 then n.l == 0 && n.r == 0
  else if n.k = 2 then n.s.size == 0 && n.l == 0 && n.r == 0
  else if jn n.k then n.s.size == 0 && has t n.l && has t n.r
  else false
def check (t : List Nd) (n : Nd) : Int :=
  if shaped t n then (if n.k = 1 then (if word n.s.data.toList then 0 else 32) else 0) else 31
/-- What Put answers: the number, the error, the rows behind it. -/
def put (t : List Nd) (n : Nd) : Int × Int × List Nd :=
  if check t n = 0 then (if n ∈ t then ((t.idxOf n : Int), 0, t) else if 1024 ≤ t.length then (0, 30, t) else ((t.length : Int), 0, t ++ [n]))
  else (0, check t n, t)
def bot : Nd := ⟨2, ⟨#[]⟩, 0, 0⟩
def notp (t : List Nd) (a : Int) : Int × Int × List Nd :=
  if has t a then (if (put t bot).2.1 = 0 then put (put t bot).2.2 ⟨5, ⟨#[]⟩, a, (put t bot).1⟩ else (0, (put t bot).2.1, (put t bot).2.2)) else (0, 31, t)
/-- What From answers: the error, the rows. -/
def fr (t : List Nd) : List Nd → Int × List Nd
  | [] => (0, t)
  | n :: r => if (put t n).2.1 = 0 then (if (put t n).1 = t.length then fr (put t n).2.2 r else (31, [])) else ((put t n).2.1, [])

/-- What a table is. -/
structure Ok (t : List Nd) : Prop where
  len : t.length ≤ 1024
  nd : t.Nodup
  chk : ∀ i (h : i < t.length), check (t.take i) t[i] = 0
  gd : ∀ n ∈ t, good n

theorem ok_nil : Ok [] := ⟨by simp, List.nodup_nil, fun i h => by simp at h, fun n h => by cases h⟩
theorem good_join (k a b : Int) (hk : i64 k) (ha : i64 a) (hb : i64 b) : good ⟨k, ⟨#[]⟩, a, b⟩ := ⟨hk, Nat.zero_le _, ha, hb⟩
theorem i64_small {x : Int} (h0 : 0 ≤ x) (h1 : x ≤ 1024) : i64 x := ⟨by omega, by omega⟩
theorem good_bot : good bot := good_join 2 0 0 (i64_small (by omega) (by omega)) (i64_small (by omega) (by omega)) (i64_small (by omega) (by omega))
theorem has_iff {t : List Nd} {i : Int} : has t i = true ↔ 0 ≤ i ∧ i < t.length := by simp [has]
theorem ok_put {t : List Nd} (h : Ok t) {n : Nd} (hn : good n) : Ok (put t n).2.2 := by
  unfold put
  split
  · rename_i hc
    split
    · exact h
    · rename_i hm
      split
      · exact h
      · rename_i hl
        refine ⟨by simp; omega, ?_, ?_, ?_⟩
        · rw [List.nodup_append]
          exact ⟨h.nd, by simp, fun a ha b hb e => by simp at hb; subst e; subst hb; exact hm ha⟩
        · intro i hi
          by_cases hlt : i < t.length
          · have e : (t ++ [n]).take i = t.take i := by rw [List.take_append_of_le_length (by omega)]
            rw [show (t ++ [n], 0).1.take i = t.take i from e]
            have e2 : (t ++ [n])[i]'hi = t[i] := List.getElem_append_left hlt
            show check (t.take i) ((t ++ [n])[i]'hi) = 0
            rw [e2]
            exact h.chk i hlt
          · simp at hi
            have hi2 : i = t.length := by omega
            subst hi2
            show check ((t ++ [n]).take t.length) ((t ++ [n])[t.length]'(by simp)) = 0
            rw [List.take_left]
            simpa using hc
        · intro x hx
          rcases List.mem_append.1 hx with hx | hx
          · exact h.gd x hx
          · simp at hx; subst hx; exact hn
  · exact h
theorem put_err {t : List Nd} {n : Nd} (h : (put t n).2.1 ≠ 0) : (put t n).2.2 = t ∧ (put t n).1 = 0 := by
  unfold put at *
  split
  · rename_i hc
    rw [if_pos hc] at h
    split
    · rename_i hm; rw [if_pos hm] at h; exact absurd rfl h
    · rename_i hm
      rw [if_neg hm] at h
      split
      · exact ⟨rfl, rfl⟩
      · rename_i hl; rw [if_neg hl] at h; exact absurd rfl h
  · exact ⟨rfl, rfl⟩
theorem put_len (t : List Nd) (n : Nd) : t.length ≤ (put t n).2.2.length ∧ ∃ u, (put t n).2.2 = t ++ u := by
  unfold put
  split
  · split
    · exact ⟨Nat.le_refl _, [], by simp⟩
    · split
      · exact ⟨Nat.le_refl _, [], by simp⟩
      · exact ⟨by simp, [n], rfl⟩
  · exact ⟨Nat.le_refl _, [], by simp⟩
theorem put_id {t : List Nd} (h : Ok t) (n : Nd) : 0 ≤ (put t n).1 ∧ (put t n).1 ≤ 1024 := by
  have := h.len
  unfold put
  split
  · split
    · rename_i hm
      have h2 := List.idxOf_lt_length_iff.2 hm
      refine ⟨by simp, ?_⟩
      show (List.idxOf n t : Int) ≤ 1024
      omega
    · split
      · exact ⟨by simp, by simp⟩
      · refine ⟨by simp, ?_⟩
        show (t.length : Int) ≤ 1024
        omega
  · exact ⟨by simp, by simp⟩
theorem check_vals (t : List Nd) (n : Nd) : check t n = 0 ∨ check t n = 31 ∨ check t n = 32 := by
  unfold check
  repeat' split
  all_goals simp
theorem put_errs (t : List Nd) (n : Nd) : (put t n).2.1 = 0 ∨ (put t n).2.1 = 30 ∨ (put t n).2.1 = 31 ∨ (put t n).2.1 = 32 := by
  have := check_vals t n
  unfold put
  repeat' split
  all_goals simp_all
theorem ok_notp {t : List Nd} (h : Ok t) {a : Int} (ha : i64 a) : Ok (notp t a).2.2 := by
  unfold notp
  split
  · have h1 := ok_put h good_bot
    split
    · have h2 := put_id h bot
      exact ok_put h1 (good_join 5 a _ (i64_small (by omega) (by omega)) ha (i64_small h2.1 h2.2))
    · exact h1
  · exact h
theorem ok_take {t : List Nd} (h : Ok t) (m : Nat) : Ok (t.take m) := by
  refine ⟨by have := h.len; simp; omega, h.nd.sublist (List.take_sublist m t), ?_, fun n hn => h.gd n (List.mem_of_mem_take hn)⟩
  intro i hi
  rw [List.length_take] at hi
  rw [List.take_take, Nat.min_eq_left (by omega), List.getElem_take]
  exact h.chk i (by omega)
theorem shaped_mono {t u : List Nd} {n : Nd} : shaped t n = true → t.length ≤ u.length → shaped u n = true := by
  intro h hl
  unfold shaped at *
  split
  · rename_i h1; rw [if_pos h1] at h; exact h
  · rename_i h1
    rw [if_neg h1] at h
    split
    · rename_i h2; rw [if_pos h2] at h; exact h
    · rename_i h2
      rw [if_neg h2] at h
      split
      · rename_i h3
        rw [if_pos h3] at h
        simp only [Bool.and_eq_true, has_iff] at h ⊢
        refine ⟨⟨h.1.1, h.1.2.1, by omega⟩, h.2.1, by omega⟩
      · rename_i h3; rw [if_neg h3] at h; exact h
theorem check_shaped {t : List Nd} {n : Nd} (h : check t n = 0) : shaped t n = true := by
  unfold check at h
  cases hs : shaped t n
  · rw [hs] at h; simp at h
  · rfl
/-- The kinds of rows, and their parts. -/
theorem ok_kind {t : List Nd} (h : Ok t) {i : Nat} (hi : i < t.length) : t[i].k = 1 ∨ t[i].k = 2 ∨ jn t[i].k = true := by
  have := check_shaped (h.chk i hi)
  unfold shaped at this
  by_cases h1 : t[i].k = 1
  · exact Or.inl h1
  · by_cases h2 : t[i].k = 2
    · exact Or.inr (Or.inl h2)
    · rw [if_neg h1, if_neg h2] at this
      cases hj : jn t[i].k
      · rw [hj] at this; simp at this
      · exact Or.inr (Or.inr rfl)
theorem ok_parts {t : List Nd} (h : Ok t) {i : Nat} (hi : i < t.length) (hj : jn t[i].k = true) : (0 ≤ t[i].l ∧ t[i].l < i) ∧ 0 ≤ t[i].r ∧ t[i].r < i := by
  have := check_shaped (h.chk i hi)
  unfold shaped at this
  have h1 : t[i].k ≠ 1 := fun e => by rw [e] at hj; simp [jn] at hj
  have h2 : t[i].k ≠ 2 := fun e => by rw [e] at hj; simp [jn] at hj
  rw [if_neg h1, if_neg h2, if_pos hj] at this
  simp only [Bool.and_eq_true, has_iff, List.length_take] at this
  refine ⟨⟨this.1.2.1, ?_⟩, this.2.1, ?_⟩
  · have := this.1.2.2; omega
  · have := this.2.2; omega
/-- A row that is there is put in again: its number. -/
theorem put_new {t : List Nd} {n : Nd} (hc : check t n = 0) (hm : n ∉ t) (hl : t.length < 1024) : put t n = ((t.length : Int), 0, t ++ [n]) := by
  unfold put
  rw [if_pos hc, if_neg hm, if_neg (by omega)]
theorem fr_ok {t : List Nd} (h : Ok t) : ∀ (m i : Nat), m = t.length - i → i ≤ t.length → fr (t.take i) (t.drop i) = (0, t)
  | 0, i, hm, hi => by
    have e : i = t.length := by omega
    subst e
    simp [fr]
  | m + 1, i, hm, hi => by
    have hlt : i < t.length := by omega
    rw [List.drop_eq_getElem_cons hlt]
    have hnm : t[i] ∉ t.take i := by
      intro hx
      obtain ⟨j, hj, e⟩ := List.mem_iff_getElem.1 hx
      simp at hj
      rw [List.getElem_take] at e
      have hpw := List.pairwise_iff_getElem.1 h.nd j i (by omega) hlt (by omega)
      exact hpw e
    have hp := put_new (h.chk i hlt) hnm (by have := h.len; simp; omega)
    unfold fr
    rw [hp]
    simp only [if_true]
    have e2 : t.take i ++ [t[i]] = t.take (i + 1) := by rw [List.take_succ_eq_append_getElem hlt]
    rw [e2]
    exact fr_ok h m (i + 1) (by omega) (by omega)
theorem fr_self {t : List Nd} (h : Ok t) : fr [] t = (0, t) := by
  have := fr_ok h t.length 0 (by omega) (by omega)
  simpa using this
theorem fr_zero {t u : List Nd} (r : List Nd) (h : Ok t) (hr : ∀ n ∈ r, good n) (hu : fr t r = (0, u)) : Ok u ∧ u = t ++ r := by
  induction r generalizing t with
  | nil => simp [fr] at hu; subst hu; exact ⟨h, by simp⟩
  | cons n r ih =>
    unfold fr at hu
    by_cases h1 : (put t n).2.1 = 0
    · rw [if_pos h1] at hu
      by_cases h2 : (put t n).1 = t.length
      · rw [if_pos h2] at hu
        have hgn := hr n (by simp)
        have h3 : (put t n).2.2 = t ++ [n] := by
          unfold put at h1 h2 ⊢
          split
          · rename_i hc
            rw [if_pos hc] at h1 h2
            split
            · rename_i hm
              rw [if_pos hm] at h2
              have := List.idxOf_lt_length_iff.2 hm
              simp at h2
              omega
            · rename_i hm
              rw [if_neg hm] at h1 h2
              split
              · rename_i hl; rw [if_pos hl] at h1; simp at h1
              · rfl
          · rename_i hc
            rw [if_neg hc] at h1
            exact absurd h1 hc
        obtain ⟨g1, g2⟩ := ih (ok_put h hgn) (fun x hx => hr x (by simp [hx])) hu
        exact ⟨g1, by rw [g2, h3]; simp⟩
      · rw [if_neg h2] at hu; simp at hu
    · rw [if_neg h1] at hu
      simp at hu
      exact absurd hu.1 h1

/-- Marks of rows: down from a number, each row that is marked marks its parts. -/
def upd (m : Nat → Bool) (i : Nat) : Nat → Bool := fun j => if j = i then true else m j
def mark (t : List Nd) : Nat → (Nat → Bool) → Nat → Bool
  | 0, m => m
  | i + 1, m => mark t i (if m i && jn (t.getD i z).k then upd (upd m (t.getD i z).l.toNat) (t.getD i z).r.toNat else m)
def below (t : List Nd) (i : Nat) : List Nat := (List.range (i + 1)).filter (mark t (i + 1) (upd (fun _ => false) i))
end Go.Proofs.YtcidldgenogdkaaGreatDoor.Fm
/-
  Rows of formulas in memory; tables of the program's and of the document's; what a call leaves as it was. No condition.
-/
namespace Go.Proofs.YtcidldgenogdkaaGreatDoor
open Go.RowKit Go.Maps
open Fm (Nd)

theorem ret_int {k : IntKind} {a b : Int} (h : a = b) : Ending.returned (.int k a) = .returned (.int k b) := by rw [h]
theorem val_int {k : IntKind} {a b : Int} (h : a = b) : Value.int k a = .int k b := by rw [h]
theorem ret_bool {a b : Bool} (h : a = b) : Ending.returned (.bool a) = .returned (.bool b) := by rw [h]
theorem below_alloc (w : World) (o : Obj) : Below w.heap.size w (w.alloc o) := (Below.refl _ _).alloc (Nat.le_refl _) _
theorem lt_of_block {w : World} {g : Nat} {o : Obj} (h : w.heap[g]? = some o) : g < w.heap.size := (Array.getElem?_eq_some_iff.1 h).1
theorem laidOut : laidOutB Tryz.prog = true := by kernel_rfl

/-- A row's cells, and a row as a value. -/
def ndC (n : Nd) : List Value := [.int .i64 n.k, .string n.s, .int .i64 n.l, .int .i64 n.r]
def ndV (n : Nd) : Value := .agg #[.int .i64 n.k, .string n.s, .int .i64 n.l, .int .i64 n.r]
def cellsOf (t : List Nd) : List Value := t.flatMap ndC
theorem ndC_one (n : Nd) : ∀ u ∈ ndC n, u.oneCell' = true := by
  intro u hu
  simp only [ndC, List.mem_cons, List.not_mem_nil, or_false] at hu
  rcases hu with rfl | rfl | rfl | rfl <;> rfl
theorem cellsOf_one (t : List Nd) : ∀ u ∈ cellsOf t, u.oneCell' = true := by
  intro u hu
  obtain ⟨n, _, hn⟩ := List.mem_flatMap.1 hu
  exact ndC_one n u hn
theorem cellsOf_snoc (t : List Nd) (n : Nd) : cellsOf (t ++ [n]) = cellsOf t ++ ndC n := by simp [cellsOf]
theorem cellsOf_len (t : List Nd) : (cellsOf t).length = t.length * 4 := by
  induction t with
  | nil => rfl
  | cons n r ih => show (ndC n ++ cellsOf r).length = _; rw [List.length_append, ih, List.length_cons]; show 4 + _ = _; omega
theorem cellsOf_at : ∀ (t : List Nd) (k j : Nat) (hk : k < t.length), j < 4 → (cellsOf t)[k * 4 + j]? = (ndC t[k])[j]?
  | [], k, j, hk, _ => absurd hk (by simp)
  | n :: t, 0, j, hk, hj => by
    show (ndC n ++ cellsOf t)[0 * 4 + j]? = _
    rw [List.getElem?_append_left (by show 0 * 4 + j < 4; omega), Nat.zero_mul, Nat.zero_add]
    rfl
  | n :: t, k + 1, j, hk, hj => by
    have hl : (ndC n).length = 4 := rfl
    show (ndC n ++ cellsOf t)[(k + 1) * 4 + j]? = _
    rw [List.getElem?_append_right (by rw [hl]; omega), hl, show (k + 1) * 4 + j - 4 = k * 4 + j by omega]
    rw [cellsOf_at t k j (by simpa using hk) hj]
    rfl
theorem cellsOf_take (t : List Nd) (m : Nat) (h : m ≤ t.length) : (cellsOf t).take (m * 4) = cellsOf (t.take m) := by
  have e : cellsOf t = cellsOf (t.take m) ++ cellsOf (t.drop m) := by
    show _ = (t.take m).flatMap ndC ++ (t.drop m).flatMap ndC
    rw [← List.flatMap_append, List.take_append_drop]
    rfl
  rw [e]
  have hl : (cellsOf (t.take m)).length = m * 4 := by rw [cellsOf_len, List.length_take, Nat.min_eq_left h]
  rw [← hl]
  exact List.take_left

/-- One row that lies in block b from o on. -/
structure At4 (w : World) (b o : Nat) (n : Nd) : Prop where
  c0 : w.cell? ⟨b, o, none⟩ = some (.int .i64 n.k)
  c1 : w.cell? ⟨b, o + 1, none⟩ = some (.string n.s)
  c2 : w.cell? ⟨b, o + 2, none⟩ = some (.int .i64 n.l)
  c3 : w.cell? ⟨b, o + 3, none⟩ = some (.int .i64 n.r)
/-- A slice that holds these rows (read alone). -/
def IsR (w : World) (v : Value) (t : List Nd) : Prop :=
  ∃ p c, v = .slice p t.length c ∧ t.length ≤ c ∧ c ≤ 9223372036854775807 ∧ (0 < t.length → ∃ b o, p = some ⟨b, o, none⟩ ∧ ∀ k (hk : k < t.length), At4 w b (o + k * 4) t[k])
/-- A slice of a table: it lies at the head of a block of its own kind. -/
def Rw (w : World) (v : Value) (t : List Nd) : Prop :=
  (v = .slice none 0 0 ∧ t = []) ∨ ∃ g cap cur, v = .slice (some ⟨g, 0, none⟩) t.length cap ∧ w.heap[g]? = some (.cells cur 104 (0, 0)) ∧ t.length ≤ cap ∧ cap ≤ maxLen ∧ cap * 4 ≤ cur.size ∧ cur.toList.take (t.length * 4) = cellsOf t
theorem rw_nil (w : World) : Rw w (.slice none 0 0) [] := Or.inl ⟨rfl, rfl⟩
theorem Rw.isR {w : World} {v : Value} {t : List Nd} (h : Rw w v t) : IsR w v t := by
  rcases h with ⟨rfl, rfl⟩ | ⟨g, cap, cur, rfl, hh, h1, h2, h3, h4⟩
  · exact ⟨none, 0, rfl, by simp, by omega, fun hp => by simp at hp⟩
  · refine ⟨_, cap, rfl, h1, by unfold maxLen at h2; omega, fun _ => ⟨g, 0, rfl, fun k hk => ?_⟩⟩
    have hc : ∀ j, j < 4 → w.cell? ⟨g, k * 4 + j, none⟩ = (ndC t[k])[j]? := fun j hj => by
      rw [cell_of_row w g _ cur _ _ hh, ← cellsOf_at t k j hk hj, ← h4, List.getElem?_take, if_pos (by omega)]
      simp
    rw [Nat.zero_add]
    exact ⟨hc 0 (by omega), hc 1 (by omega), hc 2 (by omega), hc 3 (by omega)⟩
theorem Rw.lt {w : World} {v : Value} {t : List Nd} (h : Rw w v t) : ∀ k, v.ownBlock = some k → k < w.heap.size ∧ ∃ cur, w.heap[k]? = some (.cells cur 104 (0, 0)) := by
  intro k hk
  rcases h with ⟨rfl, rfl⟩ | ⟨g, cap, cur, rfl, hh, _⟩
  · cases hk
  · obtain rfl : g = k := Option.some.inj hk
    exact ⟨lt_of_block hh, cur, hh⟩
theorem Rw.keep {w w' : World} {v : Value} {t : List Nd} (h : Rw w v t) (hk : ∀ k, v.ownBlock = some k → w'.heap[k]? = w.heap[k]?) : Rw w' v t := by
  rcases h with ⟨rfl, rfl⟩ | ⟨g, cap, cur, rfl, hh, r⟩
  · exact Or.inl ⟨rfl, rfl⟩
  · exact Or.inr ⟨g, cap, cur, rfl, (hk g rfl).trans hh, r⟩
theorem IsR.later {w w' : World} {v : Value} {t : List Nd} (h : IsR w v t) (hb : Below w.heap.size w w') : IsR w' v t := by
  obtain ⟨p, c, hv, h1, h2, h3⟩ := h
  refine ⟨p, c, hv, h1, h2, fun hp => ?_⟩
  obtain ⟨b, o, hbo, hc⟩ := h3 hp
  refine ⟨b, o, hbo, fun k hk => ?_⟩
  have h := hc k hk
  have hlt : b < w.heap.size := World.block_lt_of_cell? w _ h.c0
  exact ⟨(hb.cell (p := ⟨b, _, none⟩) hlt).trans h.c0, (hb.cell (p := ⟨b, _, none⟩) hlt).trans h.c1, (hb.cell (p := ⟨b, _, none⟩) hlt).trans h.c2, (hb.cell (p := ⟨b, _, none⟩) hlt).trans h.c3⟩

/-- Nothing but the blocks of S has turned. -/
structure Kp (S : Nat → Prop) (w w' : World) : Prop where
  os : w'.os = w.os
  tape : w'.tape = w.tape
  output : w'.output = w.output
  size : w.heap.size ≤ w'.heap.size
  block : ∀ k, k < w.heap.size → ¬ S k → w'.heap[k]? = w.heap[k]?
theorem Kp.refl (S : Nat → Prop) (w : World) : Kp S w w := ⟨rfl, rfl, rfl, Nat.le_refl _, fun _ _ _ => rfl⟩
theorem Kp.of_below {S : Nat → Prop} {w w' : World} (h : Below w.heap.size w w') : Kp S w w' := ⟨h.os, h.tape, h.output, h.size, fun k hk _ => h.block k hk⟩
theorem Kp.trans {S S' : Nat → Prop} {a b c : World} (h : Kp S a b) (k : Kp S' b c) (hS : ∀ i, S' i → S i ∨ a.heap.size ≤ i) : Kp S a c :=
  ⟨k.os.trans h.os, k.tape.trans h.tape, k.output.trans h.output, Nat.le_trans h.size k.size, fun i hi hn => (k.block i (Nat.lt_of_lt_of_le hi h.size) (fun h' => by rcases hS i h' with h1 | h1; exact hn h1; omega)).trans (h.block i hi hn)⟩
theorem Kp.below {S : Nat → Prop} {w w' : World} {B : Nat} (h : Kp S w w') (hB : B ≤ w.heap.size) (hS : ∀ k, S k → B ≤ k) : Below B w w' :=
  ⟨h.os, h.tape, h.output, h.size, fun k hk => h.block k (by omega) (fun h' => by have := hS k h'; omega)⟩
theorem Kp.drew {S : Nat → Prop} {w w' : World} (h : Kp S w w') : Kp S w w'.drew := ⟨h.os, h.tape, h.output, h.size, h.block⟩

/-- Where a slice lies that grew out of v: in v's own block, or in a block from H on. -/
def Lies (H : Nat) (v v' : Value) : Prop := ∀ k, v'.ownBlock = some k → v.ownBlock = some k ∨ H ≤ k
theorem Lies.refl (H : Nat) (v : Value) : Lies H v v := fun _ h => Or.inl h
theorem Lies.trans {H H' : Nat} {a b c : Value} (h : Lies H a b) (k : Lies H' b c) (hH : H ≤ H') : Lies H a c := fun i hi => by
  rcases k i hi with h1 | h1
  · exact h i h1
  · exact Or.inr (by omega)

/-! ### keys -/
def kl (n : Nd) : Lit := .string (keyBytes [.int .i64 n.k, .string n.s.data.toList, .int .i64 n.l, .int .i64 n.r])
theorem law : Keyed Tryz.prog 104 := Keyed.of_law (deep_law_laid (m := 2) laidOut (by omega) (of_decide_eq_true (by kernel_rfl)) (by kernel_rfl) (by kernel_rfl))
theorem wf64 {x : Int} (h : Fm.i64 x) : (Lit.int .i64 x).wf = true := WalkArith.wf_i64 (by have := h.1; have := h.2; omega)
theorem cells_node : Tryz.prog.cellsOf 104 = 4 := by kernel_rfl
theorem cells_kind : Tryz.prog.cellsOf 102 = 1 := by kernel_rfl
theorem cells_int : Tryz.prog.cellsOf 3 = 1 := by kernel_rfl
theorem cells_str : Tryz.prog.cellsOf 9 = 1 := by kernel_rfl
theorem keyLits_nd (d : Nat) {n : Nd} (h0 : (Lit.int .i64 n.k).wf = true) (h1 : n.s.size ≤ maxLen) (h2 : (Lit.int .i64 n.l).wf = true) (h3 : (Lit.int .i64 n.r).wf = true) :
    Tryz.prog.keyLits (d + 1 + 1) 104 [.int .i64 n.k, .string n.s, .int .i64 n.l, .int .i64 n.r] = some [.int .i64 n.k, .string n.s.data.toList, .int .i64 n.l, .int .i64 n.r] := by
  simp [Program.keyLits, Tryz.underlying104, Tryz.underlying102, Tryz.underlying9, Tryz.underlying3, cells_node, cells_kind, cells_int, cells_str, h0, h1, h2, h3]
theorem key_nd {n : Nd} (h : Fm.good n) : keyOf Tryz.prog 104 (ndV n) = some (kl n) := by
  have h0 := wf64 h.1
  have h2 := wf64 h.2.2.1
  have h3 := wf64 h.2.2.2
  have h1 : n.s.size ≤ maxLen := by have := h.2.1; unfold maxLen; omega
  have hts : Tryz.prog.types.size + 1 = 196 + 1 + 1 := by kernel_rfl
  have hkt : Tryz.prog.keyType 104 = true := by kernel_rfl
  unfold keyOf
  simp only [Tryz.underlying104, hkt, Bool.true_and]
  rw [if_pos (by simp [Value.formed, ndV, Tryz.underlying104, cells_node])]
  rw [hts]
  show (Tryz.prog.keyLits (196 + 1 + 1) 104 [.int .i64 n.k, .string n.s, .int .i64 n.l, .int .i64 n.r]).map _ = _
  rw [keyLits_nd 196 h0 h1 h2 h3]
  rfl
theorem key_inj {a b : Nd} (ha : Fm.good a) (hb : Fm.good b) (h : kl a = kl b) : a = b := by
  have e := law.inj (key_nd ha) (h ▸ key_nd hb)
  unfold ndV at e
  obtain ⟨k, s, l, r⟩ := a
  obtain ⟨k', s', l', r'⟩ := b
  simp at e
  obtain ⟨rfl, rfl, rfl, rfl⟩ := e
  rfl
end Go.Proofs.YtcidldgenogdkaaGreatDoor
/-
  Tables of the program's and of the document's in memory, what stays of them, and append onto a table's slice. No condition.
-/
namespace Go.Proofs.YtcidldgenogdkaaGreatDoor
open Go.RowKit Go.Maps
open Fm (Nd)

/-- The map's datum tells the number of each row, and no other row. -/
structure Tied (D : DataW Unit) (t : List Nd) : Prop where
  map : IsMap D
  tidy : Tidy D
  size : Maps.size D = t.length
  has : ∀ n, Fm.good n → Maps.has D (kl n) = decide (n ∈ t)
  num : ∀ n, Fm.good n → n ∈ t → ∀ z, D.atKey (kl n) z = .lit (.int .i64 (t.idxOf n : Int))
abbrev ownsM (w : World) (m : Nat) (D : DataW Unit) : Prop := w.ownsMap Tryz.prog 104 (plainElem Tryz.prog 3) m (Maps.size D) D
theorem own_size {w : World} {m n : Nat} {D : DataW Unit} (h : w.ownsMap Tryz.prog 104 (plainElem Tryz.prog 3) m n D) : ownsM w m D := by
  obtain ⟨es, clock, hb, F, _, rfl⟩ := h
  refine ⟨es, clock, hb, F, ?_, rfl⟩
  simp [Maps.size, length_sorted]
theorem kl_key {n : Nd} (h : Fm.good n) : WideAt.IsKeyLit (kl n) := law.key (key_nd h)
theorem tied_nil : Tied (.map []) [] := ⟨isMap_empty, tidy_empty, rfl, fun n _ => by simp [Maps.has], fun n _ h => by cases h⟩
theorem Tied.put {D : DataW Unit} {t : List Nd} (h : Tied D t) {n : Nd} (hn : Fm.good n) (hm : n ∉ t) : Tied (D.put (kl n) (.lit (.int .i64 (t.length : Int)))) (t ++ [n]) := by
  have hk := kl_key hn
  have hh : Maps.has D (kl n) = false := by rw [h.has n hn]; simp [hm]
  refine ⟨h.map.put _ _, h.tidy.put hk _, ?_, fun x hx => ?_, fun x hx hmem z => ?_⟩
  · rw [size_put h.tidy, hh, h.size]; simp
  · by_cases e : x = n
    · subst e
      rw [has_put_same h.map hk]
      simp
    · rw [has_put_other (fun e' => e (key_inj hx hn e')), h.has x hx]
      simp [e]
  · by_cases e : x = n
    · subst e
      rw [atKey_put_same h.map hk, List.idxOf_append, if_neg hm]
      simp
    · rw [atKey_put_other (fun e' => e (key_inj hx hn e'))]
      have hxt : x ∈ t := by
        rcases List.mem_append.1 hmem with h' | h'
        · exact h'
        · exact absurd (by simpa using h') e
      rw [h.num x hx hxt, List.idxOf_append, if_pos hxt]

/-- The program's table at block b, its map at block m, its slice v, its rows t. -/
structure Tb (w : World) (b m : Nat) (v : Value) (t : List Nd) : Prop where
  tab : w.heap[b]? = some (.cells #[v, .map (some m)] 100 (0, 0))
  row : Rw w v t
  map : ∃ D, ownsM w m D ∧ Tied D t
  ok : Fm.Ok t
/-- The document's table at block c. -/
structure Tr (w : World) (c : Nat) (u : Value) (t : List Nd) : Prop where
  tab : w.heap[c]? = some (.cells #[u] 61 (0, 0))
  row : Rw w u t
  ok : Fm.Ok t
def Ft (b m : Nat) (v : Value) (k : Nat) : Prop := k = b ∨ k = m ∨ v.ownBlock = some k
def Fr (c : Nat) (u : Value) (k : Nat) : Prop := k = c ∨ u.ownBlock = some k
/-- What a call leaves of a table: its rows; nothing else that was there has turned. -/
def After (w : World) (b m : Nat) (v : Value) (t' : List Nd) (w' : World) : Prop := ∃ v', Tb w' b m v' t' ∧ Lies w.heap.size v v' ∧ Kp (Ft b m v) w w'
def AfterR (w : World) (c : Nat) (u : Value) (t' : List Nd) (w' : World) : Prop := ∃ u', Tr w' c u' t' ∧ Lies w.heap.size u u' ∧ Kp (Fr c u) w w'
section
variable {w w' : World} {b m c : Nat} {v u : Value} {t t' : List Nd}
theorem Tb.c0 (h : Tb w b m v t) : w.cell? ⟨b, 0, none⟩ = some v := by rw [cell_of_row w b 0 _ _ _ h.tab]; rfl
theorem Tb.c1 (h : Tb w b m v t) : w.cell? ⟨b, 1, none⟩ = some (.map (some m)) := by rw [cell_of_row w b 1 _ _ _ h.tab]; rfl
theorem Tb.fr (h : Tb w b m v t) (j : Nat) : w.frozen? ⟨b, j, none⟩ = false := frozen_of_row w b j _ _ h.tab
theorem Tr.c0 (h : Tr w c u t) : w.cell? ⟨c, 0, none⟩ = some u := by rw [cell_of_row w c 0 _ _ _ h.tab]; rfl
theorem Tr.fr (h : Tr w c u t) (j : Nat) : w.frozen? ⟨c, j, none⟩ = false := frozen_of_row w c j _ _ h.tab
theorem Tb.mlt (h : Tb w b m v t) : m < w.heap.size := by obtain ⟨D, hD, _⟩ := h.map; exact hD.lt
theorem Tb.blt (h : Tb w b m v t) : b < w.heap.size := lt_of_block h.tab
theorem Tr.clt (h : Tr w c u t) : c < w.heap.size := lt_of_block h.tab
theorem Tb.bm (h : Tb w b m v t) : b ≠ m := by
  obtain ⟨D, ⟨es, cl, hb, _⟩, _⟩ := h.map
  intro e
  subst e
  rw [h.tab] at hb
  cases hb
theorem Tb.vb (h : Tb w b m v t) : v.ownBlock ≠ some b := by
  intro e
  obtain ⟨_, cur, hh⟩ := h.row.lt b e
  rw [h.tab] at hh
  simp at hh
theorem Tb.vm (h : Tb w b m v t) : v.ownBlock ≠ some m := by
  intro e
  obtain ⟨_, cur, hh⟩ := h.row.lt m e
  obtain ⟨D, ⟨es, cl, hb, _⟩, _⟩ := h.map
  rw [hh] at hb
  cases hb
theorem Tr.uc (h : Tr w c u t) : u.ownBlock ≠ some c := by
  intro e
  obtain ⟨_, cur, hh⟩ := h.row.lt c e
  rw [h.tab] at hh
  simp at hh
theorem Tb.keep (h : Tb w b m v t) (hk : ∀ k, Ft b m v k → w'.heap[k]? = w.heap[k]?) : Tb w' b m v t := by
  refine ⟨(hk b (Or.inl rfl)).trans h.tab, h.row.keep fun k e => hk k (Or.inr (Or.inr e)), ?_, h.ok⟩
  obtain ⟨D, ⟨es, cl, hb, r⟩, hT⟩ := h.map
  exact ⟨D, ⟨es, cl, (hk m (Or.inr (Or.inl rfl))).trans hb, r⟩, hT⟩
theorem Tr.keep (h : Tr w c u t) (hk : ∀ k, Fr c u k → w'.heap[k]? = w.heap[k]?) : Tr w' c u t :=
  ⟨(hk c (Or.inl rfl)).trans h.tab, h.row.keep fun k e => hk k (Or.inr e), h.ok⟩
theorem Tb.foot (h : Tb w b m v t) : ∀ k, Ft b m v k → k < w.heap.size := by
  rintro k (rfl | rfl | e)
  · exact h.blt
  · exact h.mlt
  · exact (h.row.lt k e).1
theorem Tr.foot (h : Tr w c u t) : ∀ k, Fr c u k → k < w.heap.size := by
  rintro k (rfl | e)
  · exact h.clt
  · exact (h.row.lt k e).1
theorem Tb.later (h : Tb w b m v t) (hb : Below w.heap.size w w') : Tb w' b m v t := h.keep fun k hk => hb.block k (h.foot k hk)
theorem Tr.later (h : Tr w c u t) (hb : Below w.heap.size w w') : Tr w' c u t := h.keep fun k hk => hb.block k (h.foot k hk)
theorem Tb.drew (h : Tb w b m v t) : Tb w.drew b m v t := h.keep fun _ _ => rfl
theorem Tr.drew (h : Tr w c u t) : Tr w.drew c u t := h.keep fun _ _ => rfl
theorem After.of_below (h : Tb w b m v t) (hb : Below w.heap.size w w') : After w b m v t w' := ⟨v, h.later hb, Lies.refl _ _, Kp.of_below hb⟩
theorem AfterR.of_below (h : Tr w c u t) (hb : Below w.heap.size w w') : AfterR w c u t w' := ⟨u, h.later hb, Lies.refl _ _, Kp.of_below hb⟩
/-- One call behind another. -/
theorem After.trans {w1 w2 : World} {v1 : Value} (h1 : Lies w.heap.size v v1) (hk : Kp (Ft b m v) w w1) (h2 : After w1 b m v1 t' w2) : After w b m v t' w2 := by
  obtain ⟨v2, ht, hl, hk2⟩ := h2
  refine ⟨v2, ht, h1.trans hl hk.size, hk.trans hk2 ?_⟩
  rintro i (e | e | e)
  · exact Or.inl (Or.inl e)
  · exact Or.inl (Or.inr (Or.inl e))
  · rcases h1 i e with h | h
    · exact Or.inl (Or.inr (Or.inr h))
    · exact Or.inr h
theorem After.from_below {w1 w2 : World} (h : After w1 b m v t' w2) (hb : Below w.heap.size w w1) : After w b m v t' w2 := After.trans (Lies.refl _ _) (Kp.of_below hb) h
theorem AfterR.trans {w1 w2 : World} {u1 : Value} (h1 : Lies w.heap.size u u1) (hk : Kp (Fr c u) w w1) (h2 : AfterR w1 c u1 t' w2) : AfterR w c u t' w2 := by
  obtain ⟨v2, ht, hl, hk2⟩ := h2
  refine ⟨v2, ht, h1.trans hl hk.size, hk.trans hk2 ?_⟩
  rintro i (e | e)
  · exact Or.inl (Or.inl e)
  · rcases h1 i e with h | h
    · exact Or.inl (Or.inr h)
    · exact Or.inr h
theorem AfterR.from_below {w1 w2 : World} (h : AfterR w1 c u t' w2) (hb : Below w.heap.size w w1) : AfterR w c u t' w2 := AfterR.trans (Lies.refl _ _) (Kp.of_below hb) h
end

theorem lit_newsV (w : World) (cs : Array Value) (t : TypeId) (g : Nat) (hg : g = w.heap.size) : ∀ j u, cs.toList[j]? = some u → (w.alloc (.cells cs t)).cell? ((⟨g, 0, none⟩ : Addr).add j) = some u := by
  intro j u hu
  subst hg
  rw [Addr.add_lit, Nat.zero_add, World.cell?_alloc_new, ← Array.getElem?_toList]
  exact hu
/-! ### append -/
theorem info_node : (Tryz.prog.info? 104).map (fun i => (i.zero, i.size, i.bytes)) = some (some (.agg #[.int .i64 0, .string ⟨#[]⟩, .int .i64 0, .int .i64 0]), 4, 40) := by kernel_rfl
theorem run_append_rw (w : World) (ty : TypeId) {v : Value} {t : List Nd} (hR : Rw w v t) (hl : t.length ≤ 1048576) (n : Nd) (a : Addr) (hn : ∀ j u, (ndC n)[j]? = some u → w.cell? (a.add j) = some u) :
    ∃ v' w', (Builtin.append_ #[22, 22] ty #[v, .slice (some a) 1 1]).run Tryz.prog w = .ok v' w' ∧ Rw w' v' (t ++ [n]) ∧ w.grownBy w' v.ownBlock ∧ Lies w.heap.size v v' := by
  obtain ⟨i, hi, hz0, hz1, hz2⟩ := info_parts info_node
  have hgen : ∀ (old : Nat), old < t.length + 1 → ∀ (row : Option Nat),
      Rw (w.drew.alloc (.cells ((cellsOf t).toArray ++ (ndC n).toArray ++ Builtin.zeroCells (Value.cells (.agg #[.int .i64 0, .string ⟨#[]⟩, .int .i64 0, .int .i64 0])) (grownCap w (t.length + 1) old 104 - (t.length + 1))) 104))
        (.slice (some ⟨w.heap.size, 0, none⟩) (t.length + 1) (grownCap w (t.length + 1) old 104)) (t ++ [n]) ∧
      w.grownBy (w.drew.alloc (.cells ((cellsOf t).toArray ++ (ndC n).toArray ++ Builtin.zeroCells (Value.cells (.agg #[.int .i64 0, .string ⟨#[]⟩, .int .i64 0, .int .i64 0])) (grownCap w (t.length + 1) old 104 - (t.length + 1))) 104)) row := by
    intro old ho row
    have hge := grownCap_ge w (t.length + 1) old 104
    have hcm : grownCap w (t.length + 1) old 104 ≤ maxLen := grownCap_le_maxLen w (t.length + 1) old 104 (by unfold maxLen; omega)
    refine ⟨Or.inr ⟨w.heap.size, _, _, by rw [List.length_append, List.length_singleton], heap_alloc_new w.drew _, by rw [List.length_append, List.length_singleton]; exact hge, hcm, ?_, ?_⟩, ⟨rfl, rfl, rfl, by simp, fun k hk _ => Below.heap_alloc w.drew _ k hk⟩⟩
    · simp only [Array.size_append, List.size_toArray, size_zeroCells, cellsOf_len]
      show _ ≤ t.length * 4 + 4 + _ * 4
      omega
    · simp only [Array.toList_append, List.append_assoc]
      rw [cellsOf_snoc, ← List.append_assoc, List.length_append, List.length_singleton]
      have hlen : (cellsOf t ++ ndC n).length = (t.length + 1) * 4 := by rw [List.length_append, cellsOf_len]; show _ + 4 = _; omega
      rw [← hlen]
      exact List.take_left
  rcases hR with ⟨rfl, rfl⟩ | ⟨g, cap, cur, rfl, hg, hnc, hcm, hcs, htake⟩
  · have hr := run_append_nil (P := Tryz.prog) w 22 ty 104 i _ Tryz.underlying22 hi hz0 a 1 1 (ndC n) (by rw [hz1]; rfl) hn (by omega) (by omega) (by rw [hz2]; omega)
    have hgr := hgen 0 (by omega) none
    exact ⟨_, _, hr, hgr.1, hgr.2, fun k hk => Or.inr (by simp [Value.ownBlock] at hk; omega)⟩
  · by_cases hroom : t.length + 1 ≤ cap
    · have hr := run_append_room (P := Tryz.prog) w 22 ty 104 i Tryz.underlying22 hi g t.length cap cur hg a 1 1 (ndC n) (by rw [hz1]; rfl) hn (ndC_one n) hroom (by rw [hz1]; show _ + 4 ≤ _; omega)
      rw [hz1] at hr
      refine ⟨_, _, hr, Or.inr ⟨g, cap, _, by rw [List.length_append, List.length_singleton], setRow_heap w g cur _ 104 _ hg, by rw [List.length_append, List.length_singleton]; exact hroom, hcm, ?_, ?_⟩, ⟨rfl, rfl, rfl, by simp, fun k _ hk => setRow_other w g k _ (fun e => hk (by simp [Value.ownBlock, e]))⟩, fun k hk => Or.inl hk⟩
      · have : (ndC n).length = 4 := rfl
        simp only [List.size_toArray, List.length_append, List.length_take, List.length_drop, Array.length_toList]
        omega
      · rw [htake, cellsOf_snoc, List.length_append, List.length_singleton]
        have hlen : (cellsOf t ++ ndC n).length = (t.length + 1) * 4 := by rw [List.length_append, cellsOf_len]; show _ + 4 = _; omega
        rw [← hlen]
        exact List.take_left
    · have holds : ∀ j u, (cellsOf t)[j]? = some u → w.cell? ((⟨g, 0, none⟩ : Addr).add j) = some u := by
        intro j u hu
        have hadd : (⟨g, 0, none⟩ : Addr).add j = ⟨g, j, none⟩ := by unfold Addr.add; split <;> simp_all
        rw [hadd, cell_of_row w g j cur _ _ hg]
        rw [← htake, List.getElem?_take] at hu
        split at hu
        · simpa using hu
        · cases hu
      have hr := run_append_grow (P := Tryz.prog) w 22 ty 104 i _ Tryz.underlying22 hi hz0 ⟨g, 0, none⟩ t.length cap (cellsOf t) (by rw [hz1]; exact cellsOf_len t) holds a 1 1 (ndC n) (by rw [hz1]; rfl) hn (by omega) (by omega) (growslice_fits (by omega) (by rw [hz2]; omega))
      have hgr := hgen cap (by omega) (some g)
      exact ⟨_, _, hr, hgr.1, hgr.2, fun k hk => Or.inr (by simp [Value.ownBlock] at hk; omega)⟩
/-- append of one row, as a step of a region that draws its order. -/
theorem step_append_rw {ops : Array Oper} {o : Oper} {a : Act} {w : World} {K : Act → World → Prop} {Q : Exit → Act → World → Prop} {E : Prop}
    (hg : o.guard = none) (s x : Operand) (hop : o.op = Op.call { callee := Callee.builtin Builtin.append, args := #[s, x], argTypes := #[22, 22] })
    (v : Value) (t : List Nd) (hs : a.eval s = v) (hR : Rw w v t) (hl : t.length ≤ 1048576) (n : Nd) (ad : Addr) (hx : a.eval x = .slice (some ad) 1 1) (hn : ∀ j u, (ndC n)[j]? = some u → w.cell? (ad.add j) = some u)
    (hK : ∀ v' w', Rw w' v' (t ++ [n]) → w.grownBy w' v.ownBlock → Lies w.heap.size v v' → K (a.put o.dst v') w') :
    if Region.wanted o (yielded ops a.tmps) = true then Oper.wp Tryz.prog o a w K Q else E := by
  have hw : Region.wanted o (yielded ops a.tmps) = true := by simp [Region.wanted, hg]
  rw [if_pos hw]
  obtain ⟨v', w', hrun, r1, r2, r3⟩ := run_append_rw w o.type hR hl n ad hn
  unfold Oper.wp
  simp [execOp, hop, resolve, invoke, builtin, hs, hx, hrun, Result.andThen]
  exact hK v' w' r1 r2 r3
end Go.Proofs.YtcidldgenogdkaaGreatDoor
/-
  The call Word: is a text a name? For every text that a machine can hold. No other condition.
-/
namespace Go.Proofs.YtcidldgenogdkaaGreatDoor
open Go.RowKit
open Fm (Nd)

theorem isL_iff (c : UInt8) : Fm.isL c = (decide (97 ≤ (c.toNat : Int) ∧ (c.toNat : Int) ≤ 122) || decide (65 ≤ (c.toNat : Int) ∧ (c.toNat : Int) ≤ 90)) := by
  unfold Fm.isL
  simp only [UInt8.le_iff_toNat_le]
  rw [Bool.eq_iff_iff]
  simp
  omega
set_option maxHeartbeats 400000 in
theorem isLetter_any (w : World) (c : UInt8) :
    Calls Tryz.prog 139 #[.int .u8 c.toNat] w fun e w' => e = .returned (.bool (Fm.isL c)) ∧ w' = w := by
  have h := isL_iff c
  have hc := c.toNat_lt
  generalize c.toNat = x at *
  generalize Fm.isL c = r at *
  have H := show Hid _ from h
  clear h
  go_enter Tryz.func139, Tryz.ntmps139
  go_wp2
  all_goals (go_ret; refine ⟨ret_bool ?_, rfl⟩; rw [H.out, Bool.eq_iff_iff]; simp only [Bool.or_eq_true, decide_eq_true_eq, true_iff, Bool.false_eq_true, false_iff]; omega)
theorem inN_iff (c : UInt8) : Fm.inN c = (Fm.isL c || decide (48 ≤ (c.toNat : Int) ∧ (c.toNat : Int) ≤ 57) || decide ((c.toNat : Int) = 95) || decide ((c.toNat : Int) = 39)) := by
  unfold Fm.inN
  simp only [UInt8.le_iff_toNat_le]
  rw [Bool.eq_iff_iff]
  simp only [Bool.or_eq_true, Bool.and_eq_true, decide_eq_true_eq, beq_iff_eq, ← UInt8.toNat_inj]
  have e1 : UInt8.toNat 48 = 48 := rfl
  have e2 : UInt8.toNat 57 = 57 := rfl
  have e3 : UInt8.toNat 95 = 95 := rfl
  have e4 : UInt8.toNat 39 = 39 := rfl
  rw [e1, e2, e3, e4]
  generalize Fm.isL c = r
  cases r <;> simp <;> omega
set_option maxHeartbeats 400000 in
theorem withinName_any (w : World) (c : UInt8) :
    Calls Tryz.prog 140 #[.int .u8 c.toNat] w fun e w' => e = .returned (.bool (Fm.inN c)) ∧ w' = w := by
  have K1 := show Hid (∀ w : World, Calls Tryz.prog 139 #[.int .u8 c.toNat] w fun e w' => e = .returned (.bool (Fm.isL c)) ∧ w' = w) from fun w => isLetter_any w c
  have h := inN_iff c
  have hc := c.toNat_lt
  generalize c.toNat = x at *
  generalize Fm.inN c = r at *
  generalize Fm.isL c = q at *
  have H := show Hid _ from h
  clear h
  cases q
  all_goals
    go_enter Tryz.func140, Tryz.ntmps140
    go_wp2_with (go_at_call 139; refine (K1.out _).mono ?_; rintro e w' ⟨rfl, rfl⟩)
  all_goals (go_ret; refine ⟨ret_bool ?_, rfl⟩; rw [H.out, Bool.eq_iff_iff]; simp only [Bool.or_eq_true, decide_eq_true_eq, true_iff, Bool.false_eq_true, false_or, true_or, beq_iff_eq]; try omega)
set_option maxHeartbeats 800000 in
theorem isTaken_any (w : World) (s : ByteArray) :
    Calls Tryz.prog 141 #[.string s] w fun e w' => e = .returned (.bool (Fm.takens.contains s.data.toList)) ∧ w' = w := by
  go_enter Tryz.func141, Tryz.ntmps141
  go_wp2
  all_goals go_ret
  all_goals (refine ⟨ret_bool ?_, rfl⟩; rw [← ByteArray.toList_eq]; simp_all [Fm.takens])
theorem word_no {s : ByteArray} (h : s.size = 0 ∨ 31 < s.size ∨ ∃ h : 0 < s.size, Fm.isL s[0] = false) : Fm.word s.data.toList = false := by
  have hl : s.data.toList.length = s.size := rfl
  unfold Fm.word
  rcases h with h | h | ⟨h0, h⟩
  · rw [hl, h]; rfl
  · rw [hl, show decide (s.size ≤ 31) = false by simp; omega]; simp
  · have e : s.data.toList.headD 0 = s[0] := by
      rw [List.headD_eq_head?_getD, List.head?_eq_getElem?]
      rw [Array.getElem?_toList, Array.getElem?_eq_getElem h0]
      rfl
    rw [e, h]; simp
theorem tail_all {s : ByteArray} (k : Nat) (hk : k < s.size) (h1 : 1 ≤ k) (h : Fm.inN s[k] = false) : Fm.word s.data.toList = false := by
  have hm : s[k] ∈ s.data.toList.tail := by
    rw [List.mem_iff_getElem]
    refine ⟨k - 1, ?_, ?_⟩
    · rw [List.length_tail]; show k - 1 < s.size - 1; omega
    · rw [List.getElem_tail]
      have e : k - 1 + 1 = k := by omega
      simp only [e]
      rfl
  unfold Fm.word
  have : s.data.toList.tail.all Fm.inN = false := by
    rw [List.all_eq_false]
    exact ⟨_, hm, by simp [h]⟩
  rw [this]; simp
theorem word_yes {s : ByteArray} (h0 : 0 < s.size) (h1 : s.size ≤ 31) (hL : Fm.isL s[0] = true) (h : ∀ j (hj : j < s.size), 1 ≤ j → Fm.inN s[j] = true) : Fm.word s.data.toList = !Fm.takens.contains s.data.toList := by
  have hl : s.data.toList.length = s.size := rfl
  have e : s.data.toList.headD 0 = s[0] := by
    rw [List.headD_eq_head?_getD, List.head?_eq_getElem?]
    rw [Array.getElem?_toList, Array.getElem?_eq_getElem h0]
    rfl
  have ht : s.data.toList.tail.all Fm.inN = true := by
    rw [List.all_eq_true]
    intro x hx
    obtain ⟨j, hj, rfl⟩ := List.mem_iff_getElem.1 hx
    rw [List.length_tail] at hj
    rw [List.getElem_tail]
    exact h (j + 1) (by have : s.data.toList.length = s.size := rfl; omega) (by omega)
  unfold Fm.word
  rw [e, hL, ht, hl, decide_eq_true h1, bne_iff_ne.2 (by omega)]
  simp
set_option maxRecDepth 100000 in
set_option maxHeartbeats 2000000 in
theorem word_any (w : World) (s : ByteArray) (hs : s.size ≤ 140737488351232) :
    Calls Tryz.prog 128 #[.string s] w fun e w' => e = .returned (.bool (Fm.word s.data.toList)) ∧ w' = w := by
  have hls : s.toList = s.data.toList := ByteArray.toList_eq s
  have HT := show Hid (∀ w : World, Calls Tryz.prog 141 #[.string s] w fun e w' => e = .returned (.bool (Fm.takens.contains s.data.toList)) ∧ w' = w) from fun w => isTaken_any w s
  have HL := show Hid (∀ (c : UInt8) (w : World), Calls Tryz.prog 139 #[.int .u8 c.toNat] w fun e w' => e = .returned (.bool (Fm.isL c)) ∧ w' = w) from fun c w => isLetter_any w c
  have HN := show Hid (∀ (c : UInt8) (w : World), Calls Tryz.prog 140 #[.int .u8 c.toNat] w fun e w' => e = .returned (.bool (Fm.inN c)) ∧ w' = w) from fun c w => withinName_any w c
  by_cases h0 : s.size = 0
  · have hw := word_no (Or.inl h0)
    have he : (s.toList == []) = true := by rw [hls]; simp; exact Array.eq_empty_of_size_eq_zero h0
    rw [hw]
    clear hls hw
    go_enter Tryz.func128, Tryz.ntmps128
    go_wp2_with fail
    go_ret
    exact ⟨rfl, rfl⟩
  · have he : (s.toList == []) = false := by
      rw [hls]
      simp
      intro e
      apply h0
      show s.data.size = 0
      rw [e]; rfl
    by_cases h1 : 31 < s.size
    · have hw := word_no (Or.inr (Or.inl h1))
      rw [hw]
      clear hls hw
      go_enter Tryz.func128, Tryz.ntmps128
      go_wp2_with fail
      go_ret
      exact ⟨rfl, rfl⟩
    · have hp : 0 < s.size := by omega
      cases hc : Fm.isL s[0]
      · have hw := word_no (Or.inr (Or.inr ⟨hp, hc⟩))
        rw [hw]
        clear hls hw
        go_enter Tryz.func128, Tryz.ntmps128
        go_wp2_with fail
        refine (HL.out _ _).mono ?_
        rintro e w' ⟨rfl, rfl⟩
        rw [hc]
        go_wp2_with fail
        go_ret
        exact ⟨rfl, rfl⟩
      · have HW := show Hid ((∀ j (hj : j < s.size), 1 ≤ j → Fm.inN s[j] = true) → Fm.word s.data.toList = !Fm.takens.contains s.data.toList) from word_yes hp (by omega) hc
        have HF := show Hid (∀ k (hk : k < s.size), 1 ≤ k → Fm.inN s[k] = false → Fm.word s.data.toList = false) from fun k hk h1 h => tail_all k hk h1 h
        clear hls
        generalize Fm.takens.contains s.data.toList = tk at *
        go_enter Tryz.func128, Tryz.ntmps128
        go_wp2_with fail
        refine (HL.out _ _).mono ?_
        rintro e w' ⟨rfl, rfl⟩
        rw [hc]
        go_wp2_with fail
        go_loop [3] (fun i => ∃ k : Nat, 1 ≤ k ∧ k ≤ s.size ∧ i = .int .i64 k ∧ Hid (∀ j (hj : j < s.size), 1 ≤ j → j < k → Fm.inN s[j] = true)) (fun i => s.size - (intOf i).toNat)
        case atStart => exact ⟨1, by omega, by omega, rfl, fun j hj h1 h2 => by omega⟩
        case round =>
          obtain ⟨k, hk1, hk, rfl, HI⟩ := hrel
          by_cases hlt : k < s.size
          · have hki : (k : Int) < (s.size : Int) := by omega
            go_wp2_with fail
            refine (HN.out _ _).mono ?_
            rintro e w' ⟨rfl, rfl⟩
            cases hn : Fm.inN s[k]
            · go_wp2_with fail
              go_ret
              exact ⟨ret_bool (HF.out k hlt hk1 hn).symm, rfl⟩
            · go_wp2_with fail
              go_round
              case rel => exact ⟨k + 1, by omega, by omega, by go_num, fun j hj h1 h2 => by
                by_cases e : j = k
                · subst e; exact hn
                · exact HI.out j hj h1 (by omega)⟩
              case measure => simp [intOf]; omega
          · go_wp2_with fail
            refine (HT.out _).mono ?_
            rintro e w' ⟨rfl, rfl⟩
            go_wp2_with fail
            go_ret
            exact ⟨ret_bool (HW.out fun j hj h1 => HI.out j hj h1 (by omega)).symm, rfl⟩
end Go.Proofs.YtcidldgenogdkaaGreatDoor

/-
  Who is above one world, found row by row: plain. No condition.
-/
import Derived.Test.YtjbnbaiidpdpoaaDoorWTdP
namespace Go.Proofs.YtjbnbaiidpdpoaaDoor.Wm
open Wd (Md Ed Rc allW inW upd)

structure Bf (u : List (List Int)) (a n : Nat) (S : Nat → Bool) (l : List Nat) (i k : Nat) : Prop where
  mem : ∀ b, b < n → (S b = true ↔ b ∈ l)
  lt : ∀ b ∈ l, b < n
  nd : l.Nodup
  st : a ∈ l
  rc : ∀ b ∈ l, Rc u a b
  cl : ∀ (j : Nat) (hj : j < l.length), j < i → ∀ r, u[l[j]]? = some r → ∀ x ∈ r, 0 ≤ x ∧ x < (n : Int) ∧ x.toNat ∈ l
  cur : ∀ (h : i < l.length) r, u[l[i]]? = some r → ∀ (j : Nat) (hj : j < r.length), j < k → 0 ≤ r[j] ∧ r[j] < (n : Int) ∧ (r[j]).toNat ∈ l
  le : i ≤ l.length
section
variable {u : List (List Int)} {a n : Nat} {S : Nat → Bool} {l : List Nat} {i k : Nat}
theorem bf_start (ha : a < n) : Bf u a n (fun b => decide (b = a)) [a] 0 0 :=
  ⟨fun b _ => by simp, fun b hb => by simp at hb; omega, by simp, by simp, fun b hb => by simp at hb; subst hb; exact .refl _, fun j _ h => absurd h (Nat.not_lt_zero _), fun _ r _ j _ h => absurd h (Nat.not_lt_zero _), Nat.zero_le _⟩
theorem Bf.len (h : Bf u a n S l i k) : l.length ≤ n := by
  have := le_of_sub l (List.range n) h.nd fun x hx => List.mem_range.2 (h.lt x hx)
  rwa [List.length_range] at this
theorem Bf.seen (h : Bf u a n S l i k) (hi : i < l.length) {r : List Int} (hr : u[l[i]]? = some r) (hk : k < r.length) (h0 : 0 ≤ r[k]) (h1 : r[k] < (n : Int)) (hs : S (r[k]).toNat = true) : Bf u a n S l i (k + 1) :=
  ⟨h.mem, h.lt, h.nd, h.st, h.rc, h.cl, fun hi' r' hr' j hj hjk => by
    obtain rfl : r = r' := Option.some.inj (hr.symm.trans hr')
    by_cases e : j = k
    · subst e
      exact ⟨h0, h1, (h.mem _ (by omega)).1 hs⟩
    · exact h.cur hi r hr j hj (by omega), h.le⟩
theorem Bf.new (h : Bf u a n S l i k) (hi : i < l.length) {r : List Int} (hr : u[l[i]]? = some r) (hk : k < r.length) (h0 : 0 ≤ r[k]) (h1 : r[k] < (n : Int)) (hs : S (r[k]).toNat = false) : Bf u a n (upd S (r[k]).toNat true) (l ++ [(r[k]).toNat]) i (k + 1) := by
  have hni : (r[k]).toNat ∉ l := fun hm => by rw [(h.mem _ (by omega)).2 hm] at hs; cases hs
  refine ⟨fun b hb => ?_, fun b hb => ?_, ?_, List.mem_append_left _ h.st, fun b hb => ?_, fun j hj hji r' hr' x hx => ?_, fun hi' r' hr' j hj hjk => ?_, by rw [List.length_append]; have := h.le; omega⟩
  · by_cases e : b = (r[k]).toNat
    · subst e; rw [Wd.upd_same]; simp
    · rw [Wd.upd_other _ _ _ e, h.mem b hb, List.mem_append]
      simp [e]
  · rcases List.mem_append.1 hb with hb | hb
    · exact h.lt b hb
    · simp at hb; omega
  · rw [List.nodup_append]
    refine ⟨h.nd, by simp, fun x hx y hy => ?_⟩
    simp at hy
    subst hy
    exact fun e => hni (e ▸ hx)
  · rcases List.mem_append.1 hb with hb | hb
    · exact h.rc b hb
    · simp at hb
      subst hb
      exact (h.rc _ (List.getElem_mem hi)).trans (.one ⟨r, hr, by rw [show ((r[k]).toNat : Int) = r[k] by omega]; exact List.getElem_mem hk⟩)
  · have hj' : j < l.length := by have := h.le; omega
    rw [List.getElem_append_left hj'] at hr'
    obtain ⟨q1, q2, q3⟩ := h.cl j hj' hji r' hr' x hx
    exact ⟨q1, q2, List.mem_append_left _ q3⟩
  · rw [List.getElem_append_left hi] at hr'
    obtain rfl : r = r' := Option.some.inj (hr.symm.trans hr')
    by_cases e : j = k
    · subst e
      exact ⟨h0, h1, List.mem_append_right _ (by simp)⟩
    · obtain ⟨q1, q2, q3⟩ := h.cur hi r hr j hj (by omega)
      exact ⟨q1, q2, List.mem_append_left _ q3⟩
theorem Bf.next (h : Bf u a n S l i k) (hi : i < l.length) {r : List Int} (hr : u[l[i]]? = some r) (hk : r.length ≤ k) : Bf u a n S l (i + 1) 0 :=
  ⟨h.mem, h.lt, h.nd, h.st, h.rc, fun j hj hji r' hr' x hx => by
    by_cases e : j = i
    · subst e
      obtain rfl : r = r' := Option.some.inj (hr.symm.trans hr')
      obtain ⟨q, hq, rfl⟩ := List.mem_iff_getElem.1 hx
      exact h.cur hj r hr q hq (by omega)
    · exact h.cl j hj (by omega) r' hr' x hx, fun _ r _ j _ h => absurd h (Nat.not_lt_zero _), by omega⟩
theorem Bf.done (h : Bf u a n S l l.length k) : (∀ b, b < n → (S b = true ↔ Rc u a b)) ∧ ∀ r, u[a]? = some r → allW n r = true := by
  have clo : ∀ b c, Rc u b c → b ∈ l → c ∈ l := fun b c hr => by
    induction hr with
    | refl => exact fun h => h
    | step e _ ih =>
      intro hb
      apply ih
      obtain ⟨r, hr, hx⟩ := e
      obtain ⟨j, hj, rfl⟩ := List.mem_iff_getElem.1 hb
      have := (h.cl j hj hj r hr _ hx).2.2
      simpa using this
  refine ⟨fun b hb => ⟨fun hs => h.rc b ((h.mem b hb).1 hs), fun hr => (h.mem b hb).2 (clo a b hr h.st)⟩, fun r hr => ?_⟩
  obtain ⟨j, hj, e⟩ := List.mem_iff_getElem.1 h.st
  simp only [allW, List.all_eq_true, inW, Bool.and_eq_true, decide_eq_true_eq]
  intro x hx
  have := h.cl j hj hj r (by rw [e]; exact hr) x hx
  exact ⟨this.1, this.2.1⟩
theorem bf_bad {r : List Int} (hk : k < r.length) (hx : ¬ (0 ≤ r[k] ∧ r[k] < (n : Int))) : allW n r = false := by
  cases e : allW n r
  · rfl
  · simp only [allW, List.all_eq_true, inW, Bool.and_eq_true, decide_eq_true_eq] at e
    exact absurd (e _ (List.getElem_mem hk)) hx
end
end Go.Proofs.YtjbnbaiidpdpoaaDoor.Wm

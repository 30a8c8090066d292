/-
  The text of a sequent: what the program writes step by step, told at once. No condition.
-/
import Derived.Test.YtkmmlimekachbaaGreatDoorSPQ
import Derived.Test.YtkmmlimekachbaaGreatDoorQRight
namespace Go.Proofs.YtkmmlimekachbaaGreatDoor
open Go.RowKit Go.Maps
open Fm (Nd)
open Bt.Bs (Ok)

def jnS (t : List Nd) (s : List UInt8) (i : Nat) : List UInt8 := (if 0 < s.length then s ++ [44, 32] else s) ++ Pr.text t (i : Int)
def jnF (t : List Nd) (l : List Nat) : List UInt8 := l.foldl (jnS t) []
theorem jnF_snoc (t : List Nd) (l : List Nat) (i : Nat) : jnF t (l ++ [i]) = jnS t (jnF t l) i := by simp [jnF]
theorem jnS_len (t : List Nd) (s : List UInt8) (i : Nat) : s.length ≤ (jnS t s i).length ∧ (Pr.text t (i : Int)).length ≤ (jnS t s i).length := by
  unfold jnS
  split <;> simp <;> omega
theorem jn_grow (t : List Nd) : ∀ (l : List Nat) (s : List UInt8), s.length ≤ (l.foldl (jnS t) s).length
  | [], _ => Nat.le_refl _
  | i :: l, s => Nat.le_trans (jnS_len t s i).1 (jn_grow t l (jnS t s i))
theorem wrQ_ok {t : List Nd} {i : Int} (hi : Fm.has t i = true) (l : List UInt8) : wrQ t l i = if l.length + (Pr.text t i).length ≤ 65536 then (l ++ Pr.text t i, 0) else (l, 11) := by
  unfold wrQ printR
  rw [hi, if_pos rfl]
  by_cases h : (Pr.text t i).length ≤ 65536
  · rw [if_pos h]
    simp only [if_true]
    by_cases h2 : l.length + (Pr.text t i).length ≤ 65536
    · rw [if_neg (by omega), if_pos h2]
    · rw [if_pos (by omega), if_neg h2]
  · rw [if_neg h]
    simp only
    rw [if_neg (by omega), if_neg (by omega)]
theorem prS_stay (t : List Nd) : ∀ (l : List Nat) (s : List UInt8 × Int), s.2 ≠ 0 → l.foldl (prS t) s = s
  | [], _, _ => rfl
  | i :: l, s, h => by
    have : prS t s i = s := by unfold prS; rw [if_neg h]
    rw [List.foldl_cons, this]
    exact prS_stay t l s h
theorem prF_is (t : List Nd) : ∀ (l : List Nat) (s : List UInt8), (∀ i ∈ l, Fm.has t (i : Int) = true) → s.length ≤ 65536 →
    ((l.foldl (jnS t) s).length ≤ 65536 → l.foldl (prS t) (s, 0) = (l.foldl (jnS t) s, 0)) ∧ (65536 < (l.foldl (jnS t) s).length → (l.foldl (prS t) (s, 0)).2 = 11)
  | [], s, _, hs => ⟨fun _ => rfl, fun h => by simp at h; omega⟩
  | i :: l, s, hh, hs => by
    have hi := hh i (by simp)
    have e : prS t (s, 0) i = if (jnS t s i).length ≤ 65536 then (jnS t s i, 0) else ((if 0 < s.length then s ++ [44, 32] else s), 11) := by
      unfold prS
      rw [if_pos rfl, wrQ_ok hi]
      unfold jnS
      rw [List.length_append]
    rw [List.foldl_cons, List.foldl_cons, e]
    by_cases h : (jnS t s i).length ≤ 65536
    · rw [if_pos h]
      exact prF_is t l (jnS t s i) (fun j hj => hh j (by simp [hj])) h
    · rw [if_neg h]
      have hg := jn_grow t l (jnS t s i)
      refine ⟨fun h2 => by omega, fun _ => ?_⟩
      rw [prS_stay t l _ (by simp)]
theorem print_once {t : List Nd} {r : List Nat} {g : Int} (h : rightQ t r g = true) : printQ t r g = if (ahQ (jnF t (Bt.Bs.nums r)) ++ Pr.text t g).length ≤ 65536 then (ahQ (jnF t (Bt.Bs.nums r)) ++ Pr.text t g, 0) else ([], 11) := by
  have h2 := h
  unfold rightQ at h2
  rw [Bool.and_eq_true] at h2
  obtain ⟨ha, hg⟩ := h2
  rw [List.all_eq_true] at ha
  have hh : ∀ i ∈ Bt.Bs.nums r, Fm.has t (i : Int) = true := fun i hi => ha _ (List.mem_map.2 ⟨i, hi, rfl⟩)
  have hp := prF_is t (Bt.Bs.nums r) [] hh (by simp)
  have hah : ∀ l : List UInt8, l.length ≤ (ahQ l).length := fun l => by unfold ahQ; split <;> simp <;> omega
  have h1 := hah (jnF t (Bt.Bs.nums r))
  unfold printQ
  rw [chk_right, h, if_pos rfl, if_pos rfl]
  by_cases hc : (jnF t (Bt.Bs.nums r)).length ≤ 65536
  · have e : prF t (Bt.Bs.nums r) = (jnF t (Bt.Bs.nums r), 0) := hp.1 hc
    rw [e]
    simp only [if_true]
    rw [wrQ_ok hg, List.length_append]
    by_cases h3 : (ahQ (jnF t (Bt.Bs.nums r))).length + (Pr.text t g).length ≤ 65536
    · simp only [if_pos h3]; rfl
    · simp only [if_neg h3]; rfl
  · have e : (prF t (Bt.Bs.nums r)).2 = 11 := hp.2 (by unfold jnF at hc; omega)
    rw [if_neg (by rw [e]; omega), e, if_neg]
    rw [List.length_append]
    omega
theorem print_not {t : List Nd} {r : List Nat} {g : Int} (h : rightQ t r g = false) : printQ t r g = ([], 31) := by
  unfold printQ
  rw [chk_right, h]
  rfl
end Go.Proofs.YtkmmlimekachbaaGreatDoor

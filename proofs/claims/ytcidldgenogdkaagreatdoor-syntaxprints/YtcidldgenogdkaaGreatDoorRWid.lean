/-
  The document's call Widths: for every table. No other condition.
-/
import Derived.Test.YtcidldgenogdkaaGreatDoorRPart
import Derived.Test.YtcidldgenogdkaaGreatDoorSSize
namespace Go.Proofs.YtcidldgenogdkaaGreatDoor
open Go.RowKit Go.Maps
open Fm (Nd)

namespace Rp
def rnN (t : List Nd) (i least : Int) : Nat := if lev t i < least then 2 else 0
theorem rnd_nat (t : List Nd) (i least : Int) : rnd t i least = (rnN t i least : Int) := by unfold rnd rnN; split <;> rfl
theorem rnN_le (t : List Nd) (i least : Int) : rnN t i least ≤ 2 := by unfold rnN; split <;> omega
/-- A text's length, as the document sums it. -/
def raw (t : List Nd) (i : Int) : Nat :=
  if (nodeOf t i).k = 1 then (nodeOf t i).s.size else if (nodeOf t i).k = 2 then 5 else if lev t i = 4 then 4 else if lev t i = 3 then 1 + Pr.wd t (nodeOf t i).l + rnN t (nodeOf t i).l 3
  else Pr.wd t (nodeOf t i).l + rnN t (nodeOf t i).l (need (nodeOf t i).k).1 + 3 + Pr.wd t (nodeOf t i).r + rnN t (nodeOf t i).r (need (nodeOf t i).k).2 + (if (nodeOf t i).k = 5 then 1 else 0)
theorem wd_raw {t : List Nd} (hT : Fm.Ok t) {i : Int} (hi : Fm.has t i = true) : Pr.wd t i = min (raw t i) 65537 := by
  have h := text_r hT hi
  have hp : ∀ j least, (ptx t j least).length = (Pr.text t j).length + rnN t j least := fun j least => by rw [ptx_len, rnd_nat]; simp
  show min (Pr.text t i).length 65537 = _
  unfold raw
  by_cases h1 : (nodeOf t i).k = 1
  · rw [if_pos h1] at h ⊢; rw [h]; rfl
  rw [if_neg h1] at h ⊢
  by_cases h2 : (nodeOf t i).k = 2
  · rw [if_pos h2] at h ⊢; rw [h]; rfl
  rw [if_neg h2] at h ⊢
  by_cases h4 : lev t i = 4
  · rw [if_pos h4] at h ⊢; rw [h]; rfl
  rw [if_neg h4] at h ⊢
  by_cases h3 : lev t i = 3
  · rw [if_pos h3] at h ⊢
    rw [h, List.length_cons, hp]
    unfold Pr.wd
    omega
  rw [if_neg h3] at h ⊢
  rw [h, List.length_append, List.length_append, hp, hp]
  have hs : (Pr.sign (nodeOf t i).k).data.toList.length = 3 + (if (nodeOf t i).k = 5 then 1 else 0) := by
    have hj : (nodeOf t i).k = 3 ∨ (nodeOf t i).k = 4 ∨ (nodeOf t i).k = 5 := by
      obtain ⟨k, rfl, hk, hn⟩ := Pr.node_at hi
      rw [hn] at h1 h2 ⊢
      rcases Fm.ok_kind hT hk with e | e | e
      · exact absurd e h1
      · exact absurd e h2
      · unfold Fm.jn at e; simp at e; omega
    rcases hj with e | e | e <;> rw [e] <;> rfl
  rw [hs]
  unfold Pr.wd
  omega
end Rp
theorem Iz.other {w : World} {g n : Nat} {f : Nat → Nat} (h : Iz w g n f) {k l : Nat} (hl : l < n) (hne : l ≠ k) (v : Value) : (w.setCell ⟨g, k, none⟩ v).cell? ⟨g, l, none⟩ = some (.int .i64 (f l : Int)) := by
  rw [cell_of_row _ g l _ _ _ (heap_setCell_same w g k _ _ _ h)]
  simp [hl, Ne.symm hne]
/-- What the loop of Widths keeps. -/
structure Wz (w wr : World) (c n : Nat) (u : Value) (t : List Nd) (f : Nat → Nat) : Prop where
  a : Iz wr w.heap.size n f
  tr : Tr wr c u t
  be : Below w.heap.size w wr
theorem Wz.later {w wr w' : World} {c n : Nat} {u : Value} {t : List Nd} {f : Nat → Nat} (h : Wz w wr c n u t f) (hb : Below wr.heap.size wr w') : Wz w w' c n u t f :=
  ⟨(hb.block _ h.a.lt).trans h.a, h.tr.later hb, h.be.trans (hb.mono h.be.size)⟩
theorem nfr_int {w : World} {g c : Nat} {u : Value} {t : List Nd} {cs : Array Value} (h : w.heap[g]? = some (.cells cs 3 (0, 0))) (hT : Tr w c u t) : ¬ Fr c u g := by
  rintro (rfl | e)
  · rw [hT.tab] at h; simp at h
  · obtain ⟨_, cur, hh⟩ := hT.row.lt g e
    rw [h] at hh; simp at hh
theorem Wz.set {w wr : World} {c n : Nat} {u : Value} {t : List Nd} {f : Nat → Nat} (h : Wz w wr c n u t f) (j x : Nat) : Wz w (wr.setCell ⟨w.heap.size, j, none⟩ (.int .i64 (x : Int))) c n u t (updN f j x) :=
  ⟨h.a.set j x, h.tr.keep fun k hk => Below.heap_setCell _ _ _ _ (fun e => nfr_int h.a h.tr (by subst e; exact hk)), h.be.setCell (Nat.le_refl _) _⟩
end Go.Proofs.YtcidldgenogdkaaGreatDoor

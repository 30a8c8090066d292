/-
  The document's call Put: for every row that a machine can hold. No other condition.
-/
import Derived.Test.YtkpbpecikibohaaDoorRTab
namespace Go.Proofs.YtkpbpecikibohaaDoor
open Go.RowKit Go.Maps
open Fm (Nd)

theorem halfR {w W w' : World} {c : Nat} {u u' : Value} {t t' : List Nd} (h : Tr w c u t) (hW : Below w.heap.size w W) (hg : W.grownBy w' u.ownBlock) (hr : Rw w' u' t') (hl : Lies W.heap.size u u') (hok : Fm.Ok t') :
    Tr (w'.setCell ⟨c, 0, none⟩ u') c u' t' ∧ Lies w.heap.size u u' ∧ Kp (Fr c u) w (w'.setCell ⟨c, 0, none⟩ u') := by
  have hb : w'.heap[c]? = some (.cells #[u] 51 (0, 0)) := (hg.block c (Nat.lt_of_lt_of_le h.clt hW.size) (fun e => h.uc e.symm)).trans ((hW.block c h.clt).trans h.tab)
  have hne : u'.ownBlock ≠ some c := fun e => by
    obtain ⟨_, cur, hh⟩ := hr.lt c e
    rw [hb] at hh
    simp at hh
  have hsz := hW.size
  refine ⟨⟨heap_setCell_same w' c 0 _ _ _ hb, hr.keep fun k hk => Below.heap_setCell _ _ _ _ (fun e => hne (hk.trans (congrArg some e))), hok⟩, fun k hk => (hl k hk).imp id (fun h' => by omega), ?_⟩
  refine ⟨hg.os.trans hW.os, hg.tape.trans hW.tape, hg.output.trans hW.output, Nat.le_trans hW.size (Nat.le_trans hg.size (by simp [World.setCell])), fun k hk hn => ?_⟩
  rw [Below.heap_setCell _ _ _ _ (fun e => hn (Or.inl e))]
  exact (hg.block k (Nat.lt_of_lt_of_le hk hW.size) (fun e => hn (Or.inr e.symm))).trans (hW.block k hk)
theorem check_ways (t : List Nd) (n : Nd) :
    (n.k = 1 ∧ (((n.l != 0) = true ∧ Fm.check t n = 31) ∨ ((n.l != 0) = false ∧ (n.r != 0) = true ∧ Fm.check t n = 31) ∨ ((n.l != 0) = false ∧ (n.r != 0) = false ∧ Fm.word n.s.data.toList = false ∧ Fm.check t n = 32) ∨ ((n.l != 0) = false ∧ (n.r != 0) = false ∧ Fm.word n.s.data.toList = true ∧ Fm.check t n = 0))) ∨
    (n.k = 2 ∧ (((n.s.toList == []) = false ∧ Fm.check t n = 31) ∨ ((n.s.toList == []) = true ∧ (n.l != 0) = true ∧ Fm.check t n = 31) ∨ ((n.s.toList == []) = true ∧ (n.l != 0) = false ∧ (n.r != 0) = true ∧ Fm.check t n = 31) ∨ ((n.s.toList == []) = true ∧ (n.l != 0) = false ∧ (n.r != 0) = false ∧ Fm.check t n = 0))) ∨
    ((n.k = 3 ∨ n.k = 4 ∨ n.k = 5) ∧ (((n.s.toList == []) = false ∧ Fm.check t n = 31) ∨ ((n.s.toList == []) = true ∧ Fm.has t n.l = false ∧ Fm.check t n = 31) ∨ ((n.s.toList == []) = true ∧ Fm.has t n.l = true ∧ Fm.has t n.r = false ∧ Fm.check t n = 31) ∨ ((n.s.toList == []) = true ∧ Fm.has t n.l = true ∧ Fm.has t n.r = true ∧ Fm.check t n = 0))) ∨
    ((n.k == 1) = false ∧ (n.k == 2) = false ∧ (n.k == 3) = false ∧ (n.k == 4) = false ∧ (n.k == 5) = false ∧ Fm.check t n = 31) := by
  rw [nil_bytes]
  unfold Fm.check Fm.shaped
  obtain ⟨k, s, l, r⟩ := n
  simp only
  by_cases h1 : k = 1
  · subst h1
    refine Or.inl ⟨rfl, ?_⟩
    simp only [if_true]
    cases hl : (l == 0) <;> cases hr : (r == 0) <;> cases hw : Fm.word s.data.toList <;> simp_all [bne]
  · refine Or.inr ?_
    by_cases h2 : k = 2
    · subst h2
      refine Or.inl ⟨rfl, ?_⟩
      cases hz : (s.size == 0) <;> cases hl : (l == 0) <;> cases hr : (r == 0) <;> simp_all [bne]
    · refine Or.inr ?_
      by_cases h3 : k = 3 ∨ k = 4 ∨ k = 5
      · have hj : Fm.jn k = true := by
          rcases h3 with rfl | rfl | rfl <;> rfl
        refine Or.inl ⟨h3, ?_⟩
        rw [if_neg h1, if_neg h2, if_pos hj]
        cases hz : (s.size == 0) <;> cases hl : Fm.has t l <;> cases hr : Fm.has t r <;> simp [h1]
      · have hj : Fm.jn k = false := by
          simp only [not_or] at h3
          simp [Fm.jn, h3]
        refine Or.inr ?_
        simp only [not_or] at h3
        simp [h1, h2, h3, hj]
end Go.Proofs.YtkpbpecikibohaaDoor

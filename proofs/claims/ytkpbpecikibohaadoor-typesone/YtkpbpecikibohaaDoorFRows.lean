/-
  The calls Rows and Copy of a table: new memory, the same rows. No condition.
-/
import Derived.Test.YtkpbpecikibohaaDoorFAsk
import Derived.Shelf.SlMaps.Clone
import Derived.Deep.RegionHeld3
namespace Go.Proofs.YtkpbpecikibohaaDoor
open Go.RowKit Go.Maps
open Fm (Nd)

theorem run_eq_rows (w : World) (d : Nat) (a : Option Addr) (l c : Nat) : (Op.equalIn (d + 1) 22 (.slice a l c) (.slice none 0 0)).run Tryd.prog w = .ok a.isNone w := by
  cases a <;> simp [Op.equalIn, run_underlying Tryd.underlying22]
theorem run_eql_rows (w : World) (a : Option Addr) (l c : Nat) : (binOp .eql 22 (.slice a l c) (.slice none 0 0)).run Tryd.prog w = .ok (.bool a.isNone) w := by
  simp only [binOp]
  have e : (Op.equal 22 (.slice a l c) (.slice none 0 0)).run Tryd.prog w = .ok a.isNone w := run_eq_rows w 9999 a l c
  simp [e]
theorem src_cells {w : World} {b o c : Nat} {t : List Nd} (h : IsR w (.slice (some ⟨b, o, none⟩) t.length c) t) : ∀ j u, (cellsOf t)[j]? = some u → w.cell? ((⟨b, o, none⟩ : Addr).add j) = some u := by
  intro j u hu
  obtain ⟨hj, _⟩ := List.getElem?_eq_some_iff.1 hu
  rw [cellsOf_len] at hj
  obtain ⟨p, c', hv, _, _, hat⟩ := h
  obtain ⟨rfl, _, _⟩ := Value.slice.inj hv
  obtain ⟨b', o', hbo, hat2⟩ := hat (by omega)
  obtain ⟨rfl, rfl, _⟩ := Addr.mk.inj (Option.some.inj hbo)
  have hk : j / 4 < t.length := by omega
  have hA := hat2 (j / 4) hk
  have e := cellsOf_at t (j / 4) (j % 4) hk (by omega)
  rw [show j / 4 * 4 + j % 4 = j by omega, hu] at e
  rw [Addr.add_lit]
  have h4 : j % 4 = 0 ∨ j % 4 = 1 ∨ j % 4 = 2 ∨ j % 4 = 3 := by omega
  rcases h4 with h4 | h4 | h4 | h4
  · rw [h4] at e
    rw [show o + j = o + j / 4 * 4 by omega, hA.c0, e]; rfl
  · rw [h4] at e
    rw [show o + j = o + j / 4 * 4 + 1 by omega, hA.c1, e]; rfl
  · rw [h4] at e
    rw [show o + j = o + j / 4 * 4 + 2 by omega, hA.c2, e]; rfl
  · rw [h4] at e
    rw [show o + j = o + j / 4 * 4 + 3 by omega, hA.c3, e]; rfl
theorem src_any {w : World} {a : Addr} {c : Nat} {t : List Nd} (h : IsR w (.slice (some a) t.length c) t) : ∀ j u, (cellsOf t)[j]? = some u → w.cell? (a.add j) = some u := by
  by_cases h0 : t = []
  · subst h0
    intro j u hu
    simp [cellsOf] at hu
  · have hp : 0 < t.length := List.length_pos_iff.2 h0
    have h' := h
    obtain ⟨p, c', hv, _, _, hat⟩ := h
    obtain ⟨rfl, _, _⟩ := Value.slice.inj hv
    obtain ⟨b', o', hbo, _⟩ := hat hp
    obtain rfl := Option.some.inj hbo
    exact src_cells h'
theorem rw_of_own {w : World} {B n : Nat} {v : Value} {t : List Nd} (h : w.ownsRow B 54 4 v n (cellsOf t)) : Rw w v t ∧ ∀ k, v.ownBlock = some k → B ≤ k := by
  have hn : n = t.length := by have := h.1; rw [cellsOf_len] at this; omega
  subst hn
  rcases h.2 with ⟨rfl, h0⟩ | ⟨g, cap, cur, rfl, hg, hh, h1, h2, h3, h4⟩
  · exact ⟨Or.inl ⟨rfl, List.eq_nil_of_length_eq_zero h0⟩, fun k hk => by simp [Value.ownBlock] at hk⟩
  · exact ⟨Or.inr ⟨g, cap, cur, rfl, hh, h1, h2, by omega, h4⟩, fun k hk => by simp [Value.ownBlock] at hk; omega⟩
section
variable (w : World) {b m : Nat} {v : Value} {t : List Nd}
def Fresh (w w' : World) (v' : Value) (t : List Nd) : Prop := Rw w' v' t ∧ (∀ k, v'.ownBlock = some k → w.heap.size ≤ k) ∧ Below w.heap.size w w'
theorem Rw.two {w : World} {v : Value} {t : List Nd} (h : Rw w v t) : v = .slice none 0 0 ∨ ∃ a n c, v = .slice (some a) n c := by
  rcases h with ⟨rfl, rfl⟩ | ⟨g, cap, cur, rfl, _⟩
  · exact Or.inl rfl
  · exact Or.inr ⟨_, _, _, rfl⟩
end
end Go.Proofs.YtkpbpecikibohaaDoor

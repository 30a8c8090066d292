/-
  Values that follow the rows, whatever the atoms are. No condition.
-/
import Derived.Test.YtkejippimkjjaaaDoorZT1
import Derived.Test.YtkejippimkjjaaaDoorFG3
import Derived.Test.YtkejippimkjjaaaDoorBG5
namespace Go.Proofs.YtkejippimkjjaaaDoor
open Go.RowKit Go.Shelf Go.Maps
open Fm (Nd)
open Bt.Bs (Ok wd)
set_option linter.unusedSimpArgs false

def updB (f : Nat → Bool) (i : Nat) (x : Bool) : Nat → Bool := fun j => if j = i then x else f j
theorem Bs.setB {w : World} {g n : Nat} {f : Nat → Bool} (h : Bs w g n f) (j : Nat) (x : Bool) : Bs (w.setCell ⟨g, j, none⟩ (.bool x)) g n (updB f j x) := by
  have h1 : (w.setCell ⟨g, j, none⟩ (.bool x)).heap[g]? = some (.cells (((List.range n).map fun j => Value.bool (f j)).toArray.setIfInBounds j (.bool x)) 4 (0, 0)) := heap_setCell_same w g j _ _ _ h
  unfold Bs
  rw [h1]
  congr 2
  apply Array.ext'
  apply List.ext_getElem?
  intro i
  by_cases hi : i < n
  · by_cases e : i = j
    · subst e
      simp [updB, hi]
    · simp [updB, hi, e, Ne.symm e]
  · simp [hi]
structure VB (w W : World) (t : List Nd) (k : Nat) (f : Nat → Bool) : Prop where
  bs : Bs W w.heap.size t.length f
  lo : ∀ j : Nat, j < k → Rsp (nodeOf t (j : Int)) f j
  hi : ∀ j, k ≤ j → f j = false
  be : Below w.heap.size w W
theorem VB.set {w W : World} {t : List Nd} (hO : Fm.Ok t) {k : Nat} (hk : k < t.length) {f : Nat → Bool} (h : VB w W t k f) {x : Bool} (hx : Rsp (nodeOf t (k : Int)) (updB f k x) k) : VB w (W.setCell ⟨w.heap.size, k, none⟩ (.bool x)) t (k + 1) (updB f k x) := by
  refine ⟨h.bs.setB k x, fun j hj => ?_, fun j hj => ?_, h.be.setCell (Nat.le_refl _) _⟩
  · by_cases e : j = k
    · subst e; exact hx
    · have hjk : j < k := by omega
      have h1 := h.lo j hjk
      have hjl : j < t.length := by omega
      rw [nodeOf_nat hjl] at h1 ⊢
      have ej : updB f k x j = f j := by unfold updB; rw [if_neg e]
      have hp : (t[j].k = 3 ∨ t[j].k = 4 ∨ t[j].k = 5) → updB f k x t[j].l.toNat = f t[j].l.toNat ∧ updB f k x t[j].r.toNat = f t[j].r.toNat := fun h3 => by
        obtain ⟨a, b, ea, eb, la, lb⟩ := kids hO hjl h3
        unfold updB
        rw [ea, eb, Int.toNat_natCast, Int.toNat_natCast, if_neg (by omega), if_neg (by omega)]
        exact ⟨rfl, rfl⟩
      refine ⟨fun e2 => by rw [ej]; exact h1.1 e2, fun e3 => ?_, fun e4 => ?_, fun e5 => ?_⟩
      · rw [ej, (hp (by omega)).1, (hp (by omega)).2]; exact h1.2.1 e3
      · rw [ej, (hp (by omega)).1, (hp (by omega)).2]; exact h1.2.2.1 e4
      · rw [ej, (hp (by omega)).1, (hp (by omega)).2]; exact h1.2.2.2 e5
  · unfold updB
    rw [if_neg (by omega)]
    exact h.hi j (by omega)
theorem VB.same {w W : World} {t : List Nd} {k : Nat} {f : Nat → Bool} (h : VB w W t k f) (hx : Rsp (nodeOf t (k : Int)) f k) : VB w W t (k + 1) f := ⟨h.bs, fun j hj => by
  by_cases e : j = k
  · subst e; exact hx
  · exact h.lo j (by omega), fun j hj => h.hi j (by omega), h.be⟩
theorem rsp_one {f : Nat → Bool} {n : Nd} {k : Nat} (h : n.k = 1) : Rsp n f k := ⟨fun e => by omega, fun e => by omega, fun e => by omega, fun e => by omega⟩
theorem rsp_two {f : Nat → Bool} {n : Nd} {k : Nat} (h : n.k = 2) (hf : f k = false) : Rsp n f k := ⟨fun _ => hf, fun e => by omega, fun e => by omega, fun e => by omega⟩
theorem upd_at (f : Nat → Bool) (k : Nat) (x : Bool) : updB f k x k = x := by unfold updB; rw [if_pos rfl]
theorem upd_ne {f : Nat → Bool} {k j : Nat} {x : Bool} (h : j < k) : updB f k x j = f j := by unfold updB; rw [if_neg (by omega)]
theorem VB.later {w W W' : World} {t : List Nd} {k : Nat} {f : Nat → Bool} (h : VB w W t k f) (hb : Below W.heap.size W W') : VB w W' t k f := ⟨h.bs.keep hb (lt_of_block h.bs), h.lo, h.hi, h.be.trans (hb.mono h.be.size)⟩
theorem rsp_up {f : Nat → Bool} {n : Nd} {k : Nat} {x : Bool} {a b : Nat} (ha : n.l.toNat = a) (hb : n.r.toNat = b) (la : a < k) (lb : b < k) (h2 : n.k ≠ 2) (h3 : n.k = 3 → x = (f a && f b)) (h4 : n.k = 4 → x = (f a || f b)) (h5 : n.k = 5 → x = (!f a || f b)) : Rsp n (updB f k x) k := by
  refine ⟨fun e => absurd e h2, fun e => ?_, fun e => ?_, fun e => ?_⟩ <;> rw [upd_at, ha, hb, upd_ne la, upd_ne lb]
  · exact h3 e
  · exact h4 e
  · exact h5 e
end Go.Proofs.YtkejippimkjjaaaDoor

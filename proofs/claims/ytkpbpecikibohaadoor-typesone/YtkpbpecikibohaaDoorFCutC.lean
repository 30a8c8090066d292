/-
  The call Cut of a table: for every number. No condition.
-/
import Derived.Test.YtkpbpecikibohaaDoorFCut
namespace Go.Proofs.YtkpbpecikibohaaDoor
open Go.RowKit Go.Maps
open Fm (Nd)

def cutR (t : List Nd) (n : Int) : Int × List Nd := if 0 ≤ n ∧ n ≤ t.length then (0, t.take n.toNat) else (2, t)
theorem slice_cases {w : World} {v : Value} {t : List Nd} (h : Rw w v t) : (v = .slice none 0 0 ∧ t = []) ∨ ∃ g cap cur, v = .slice (some ⟨g, 0, none⟩) t.length cap ∧ w.heap[g]? = some (.cells cur 54 (0, 0)) ∧ t.length ≤ cap ∧ cap ≤ maxLen ∧ cap * 4 ≤ cur.size ∧ cur.toList.take (t.length * 4) = cellsOf t := h
section
variable (w : World) {b m : Nat} {v : Value} {t : List Nd}
end
end Go.Proofs.YtkpbpecikibohaaDoor

/-
  The calls Rows and Copy of a table: new memory, the same rows. No condition.
-/
import Derived.Test.YtkmmlimekachbabGreatDoorFG2
import Derived.Shelf.SlMaps.Clone
import Derived.Deep.RegionHeld3
namespace Go.Proofs.YtkmmlimekachbabGreatDoor
open Go.RowKit Go.Maps
open Fm (Nd)

section
variable (w : World) {b m : Nat} {v : Value} {t : List Nd}
theorem Rw.two {w : World} {v : Value} {t : List Nd} (h : Rw w v t) : v = .slice none 0 0 ∨ ∃ a n c, v = .slice (some a) n c := by
  rcases h with ⟨rfl, rfl⟩ | ⟨g, cap, cur, rfl, _⟩
  · exact Or.inl rfl
  · exact Or.inr ⟨_, _, _, rfl⟩
end
end Go.Proofs.YtkmmlimekachbabGreatDoor

/-
  The call At: the spot of a byte, for every text and every place. No condition beyond the text's size.
-/
import Derived.Test.YtcidldgenogdkaaGreatDoorTKit
import Derived.Lib.OthersKept
namespace Go.Proofs.YtcidldgenogdkaaGreatDoor.Tw
open Go.RowKit

/-- A variable of three cells at block g. -/
def S3 (w : World) (g : Nat) (a b c : Int) : Prop := w.heap[g]? = some (.cells #[.int .i64 a, .int .i64 b, .int .i64 c] 29 (0, 0))
theorem S3.c0 {w : World} {g : Nat} {a b c : Int} (h : S3 w g a b c) : w.cell? ⟨g, 0, none⟩ = some (.int .i64 a) := by rw [cell_of_row w g 0 _ _ _ h]; rfl
theorem S3.c1 {w : World} {g : Nat} {a b c : Int} (h : S3 w g a b c) : w.cell? ⟨g, 1, none⟩ = some (.int .i64 b) := by rw [cell_of_row w g 1 _ _ _ h]; rfl
theorem S3.c2 {w : World} {g : Nat} {a b c : Int} (h : S3 w g a b c) : w.cell? ⟨g, 2, none⟩ = some (.int .i64 c) := by rw [cell_of_row w g 2 _ _ _ h]; rfl
theorem S3.fr {w : World} {g : Nat} {a b c : Int} (h : S3 w g a b c) (j : Nat) : w.frozen? ⟨g, j, none⟩ = false := frozen_of_row w g j _ _ h
theorem S3.s0 {w : World} {g : Nat} {a b c : Int} (h : S3 w g a b c) (x : Int) : S3 (w.setCell ⟨g, 0, none⟩ (.int .i64 x)) g x b c := heap_setCell_same w g 0 _ _ _ h
theorem S3.s1 {w : World} {g : Nat} {a b c : Int} (h : S3 w g a b c) (x : Int) : S3 (w.setCell ⟨g, 1, none⟩ (.int .i64 x)) g a x c := heap_setCell_same w g 1 _ _ _ h
theorem S3.s2 {w : World} {g : Nat} {a b c : Int} (h : S3 w g a b c) (x : Int) : S3 (w.setCell ⟨g, 2, none⟩ (.int .i64 x)) g a b x := heap_setCell_same w g 2 _ _ _ h
theorem S3.s3 {w : World} {g : Nat} {a b c : Int} (h : S3 w g a b c) (x y z : Int) : S3 (((w.setCell ⟨g, 0, none⟩ (.int .i64 x)).setCell ⟨g, 1, none⟩ (.int .i64 y)).setCell ⟨g, 2, none⟩ (.int .i64 z)) g x y z := ((h.s0 x).s1 y).s2 z
theorem S3.other {w : World} {g g' k : Nat} {a b c : Int} (h : S3 w g a b c) (hne : g ≠ g') (x : Value) : S3 (w.setCell ⟨g', k, none⟩ x) g a b c := (Below.heap_setCell _ _ _ _ hne).trans h
theorem S3.keep {w w' : World} {g B : Nat} {a b c : Int} (h : S3 w g a b c) (hb : Below B w w') (hg : g < B) : S3 w' g a b c := (hb.block g hg).trans h
theorem below_set3 {B : Nat} {a w : World} (h : Below B a w) {g : Nat} (hg : B ≤ g) (x y z : Value) : Below B a (((w.setCell ⟨g, 0, none⟩ x).setCell ⟨g, 1, none⟩ y).setCell ⟨g, 2, none⟩ z) := ((h.setCell hg x).setCell hg y).setCell hg z
theorem iterPos_of {w : World} {k : Nat} {s : ByteArray} {p : Nat} (h : w.heap[k]? = some (.stringIter s p)) : w.iterPos k = p := by simp [World.iterPos, h]
theorem iter_set3 {w : World} {k g : Nat} {s : ByteArray} {p : Nat} (h : w.heap[k]? = some (.stringIter s p)) (hne : k ≠ g) (x y z : Value) : (((w.setCell ⟨g, 0, none⟩ x).setCell ⟨g, 1, none⟩ y).setCell ⟨g, 2, none⟩ z).heap[k]? = some (.stringIter s p) :=
  (Below.heap_setCell _ _ _ _ hne).trans ((Below.heap_setCell _ _ _ _ hne).trans ((Below.heap_setCell _ _ _ _ hne).trans h))
end Go.Proofs.YtcidldgenogdkaaGreatDoor.Tw

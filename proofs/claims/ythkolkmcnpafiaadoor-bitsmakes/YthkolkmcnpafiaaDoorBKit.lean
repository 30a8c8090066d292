/-
  How a set lies in memory, and small laws of it that the walks lean on. No condition.
-/
import Derived.Test.YthkolkmcnpafiaaDoorProg
import Derived.Test.YthkolkmcnpafiaaDoorBWord
import Derived.WalkKit
import Derived.WalkLawsBesides
import Derived.WalkSpells
import Derived.ProofKit
import Derived.Deep.WholeRow
import Derived.Laws.BitsAllLaws
import Derived.Laws.ShiftsVarLaws
import Derived.Laws.ResultCell
import Derived.Deep.RegionHeld3
namespace Go.Proofs.YthkolkmcnpafiaaDoor
open Go.RowKit
open Bs (Ok wd)

/-- A set's cells, and a set as a value. -/
def cellsB (r : List Nat) : Array Value := (r.map fun x : Nat => Value.int .u64 (x : Int)).toArray
theorem cellsB_size {r : List Nat} (h : r.length = 16) : (cellsB r).size = 16 := by simp [cellsB, h]
theorem cellsB_at {r : List Nat} {i : Nat} (h : i < r.length) : (cellsB r)[i]? = some (.int .u64 (wd r i : Int)) := by
  rw [Bs.wd_get h]
  simp [cellsB, h]
theorem cellsB_set (r : List Nat) (i x : Nat) : (cellsB r).setIfInBounds i (.int .u64 (x : Int)) = cellsB (r.set i x) := by
  simp [cellsB, List.map_set]
theorem cellsB_one (r : List Nat) : (cellsB r).all (·.oneCell') = true := by
  simp [cellsB, Value.oneCell']
theorem sizeB : (Tryd.prog.info? 25).map (·.size) = some 16 := by kernel_rfl
theorem infoB : (Tryd.prog.info? 25).map (fun i => (i.zero, i.size)) = some (some (.agg (cellsB Bs.zero)), 16) := by kernel_rfl
/-- The cell of a set that has just been boxed. -/
theorem boxed_cell (w : World) {r : List Nat} {i : Nat} (h : i < r.length) (t : TypeId) : (w.alloc (.cells (cellsB r) t)).cell? ⟨w.heap.size, i, none⟩ = some (.int .u64 (wd r i : Int)) := by
  rw [World.cell?_alloc_new, cellsB_at h]
theorem val_int {k : IntKind} {a b : Int} (h : a = b) : Value.int k a = Value.int k b := by rw [h]
theorem below_alloc (w : World) (o : Obj) : Below w.heap.size w (w.alloc o) := (Below.refl _ _).alloc (Nat.le_refl _) _

theorem inRow_any (w : World) (n : Int) : Calls Tryd.prog 38 #[.int .i64 n] w fun e w' => e = .returned (.bool (decide (0 ≤ n) && decide (n < 1024))) ∧ w' = w := by
  by_cases h : 0 ≤ n
  · go_enter Tryd.func38, Tryd.ntmps38
    go_wp2
    go_ret
    exact ⟨by simp [h], rfl⟩
  · go_enter Tryd.func38, Tryd.ntmps38
    go_wp2
    go_ret
    exact ⟨by rw [decide_eq_false (show ¬ 0 ≤ n by omega)]; rfl, rfl⟩
theorem pow64 (n : Nat) : IntKind.u64.wrap (2 ^ (n % 64)) = ((2 ^ (n % 64) : Nat) : Int) := by
  have := Bs.pow_lt (Nat.mod_lt n (show 64 > 0 by omega))
  rw [IntKind.wrap_u64, show (2 : Int) ^ (n % 64) = ((2 ^ (n % 64) : Nat) : Int) by simp]
  generalize 2 ^ (n % 64) = p at *
  omega
theorem place_any (w : World) (n : Nat) (hn : n < 1024) : Calls Tryd.prog 39 #[.int .i64 (n : Int)] w fun e w' => e = .returned (.tuple #[.int .i64 ((n / 64 : Nat) : Int), .int .u64 ((2 ^ (n % 64) : Nat) : Int)]) ∧ w' = w.drew := by
  go_enter Tryd.func39, Tryd.ntmps39
  go_wp2
  go_region
  go_wp2
  go_ret2
  exact ⟨by rw [← pow64]; rfl, rfl⟩
end Go.Proofs.YthkolkmcnpafiaaDoor

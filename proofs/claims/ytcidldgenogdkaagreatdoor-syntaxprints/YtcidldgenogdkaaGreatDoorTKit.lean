/-
  Small laws that the walks lean on; the calls start and behind. No condition.
-/
import Derived.Test.YtcidldgenogdkaaGreatDoorProg
import Derived.Test.YtcidldgenogdkaaGreatDoorTGood
import Derived.WalkKit
import Derived.WalkLawsBesides
import Derived.WalkSpells
import Derived.ProofKit
import Derived.BigQuiet
import Derived.Laws.BitsAllLaws
import Derived.Laws.RangeAny
namespace Go.Proofs.YtcidldgenogdkaaGreatDoor.Tw
open Go.RowKit

theorem ret_int {k : IntKind} {a b : Int} (h : a = b) : Ending.returned (.int k a) = .returned (.int k b) := by rw [h]
theorem val_int {k : IntKind} {a b : Int} (h : a = b) : Value.int k a = .int k b := by rw [h]
theorem ret_bool {a b : Bool} (h : a = b) : Ending.returned (.bool a) = .returned (.bool b) := by rw [h]
theorem below_alloc (w : World) (o : Obj) : Below w.heap.size w (w.alloc o) := (Below.refl _ _).alloc (Nat.le_refl _) _
theorem toNat_lt (c : UInt8) : c.toNat < 256 := c.toNat_lt
theorem results_cell2_row {P : Program} {fn : Func} {p t2 t3 : Tmp} {ty : TypeId} (h : fn.results = #[.cell p ty, .tmp t2, .tmp t3]) (tmps : Array Value) (w : World) (g : Nat) (t : TypeId) (cs : Array Value) (fr : Nat × Nat) (d : TypeDesc)
    (hp : tmps.getD p undef = .pointer (some ⟨g, 0, none⟩)) (hg : w.heap[g]? = some (.cells cs t fr))
    (hu : P.underlying ty = some d) (hd : (match d with | .struct _ | .array _ _ => true | _ => false) = true) (hi : (P.info? ty).map (·.size) = some cs.size) :
    (results fn tmps).run P w = .ok (.tuple #[.agg cs, tmps.getD t2 undef, tmps.getD t3 undef]) w := by
  have hp' : tmps[p]?.getD undef = .pointer (some ⟨g, 0, none⟩) := by simpa using hp
  simp [results, h, hp', asAddr, run_loadVar_row w g t ty cs fr d hg hu hd hi, Result.andThen]
theorem results_tmp_row {P : Program} {fn : Func} {p t2 : Tmp} {ty : TypeId} (h : fn.results = #[.tmp t2, .cell p ty]) (tmps : Array Value) (w : World) (g : Nat) (t : TypeId) (cs : Array Value) (fr : Nat × Nat) (d : TypeDesc)
    (hp : tmps.getD p undef = .pointer (some ⟨g, 0, none⟩)) (hg : w.heap[g]? = some (.cells cs t fr))
    (hu : P.underlying ty = some d) (hd : (match d with | .struct _ | .array _ _ => true | _ => false) = true) (hi : (P.info? ty).map (·.size) = some cs.size) :
    (results fn tmps).run P w = .ok (.tuple #[tmps.getD t2 undef, .agg cs]) w := by
  have hp' : tmps[p]?.getD undef = .pointer (some ⟨g, 0, none⟩) := by simpa using hp
  simp [results, h, hp', asAddr, run_loadVar_row w g t ty cs fr d hg hu hd hi, Result.andThen]
theorem below_alloc2 (w : World) (o o' : Obj) : Below w.heap.size w ((w.alloc o).alloc o') := ((Below.refl _ _).alloc (Nat.le_refl _) _).alloc (by simp) _
/-- A variable of six cells (a token) at block g. -/
def T6 (w : World) (g : Nat) (a0 a1 a2 a3 a4 a5 : Value) : Prop := w.heap[g]? = some (.cells #[a0, a1, a2, a3, a4, a5] 45 (0, 0))
section
variable {w w' : World} {g : Nat} {a0 a1 a2 a3 a4 a5 : Value}
theorem T6.c0 (h : T6 w g a0 a1 a2 a3 a4 a5) : w.cell? ⟨g, 0, none⟩ = some a0 := by rw [cell_of_row w g 0 _ _ _ h]; rfl
theorem T6.c1 (h : T6 w g a0 a1 a2 a3 a4 a5) : w.cell? ⟨g, 1, none⟩ = some a1 := by rw [cell_of_row w g 1 _ _ _ h]; rfl
theorem T6.c2 (h : T6 w g a0 a1 a2 a3 a4 a5) : w.cell? ⟨g, 2, none⟩ = some a2 := by rw [cell_of_row w g 2 _ _ _ h]; rfl
theorem T6.c3 (h : T6 w g a0 a1 a2 a3 a4 a5) : w.cell? ⟨g, 3, none⟩ = some a3 := by rw [cell_of_row w g 3 _ _ _ h]; rfl
theorem T6.c4 (h : T6 w g a0 a1 a2 a3 a4 a5) : w.cell? ⟨g, 4, none⟩ = some a4 := by rw [cell_of_row w g 4 _ _ _ h]; rfl
theorem T6.c5 (h : T6 w g a0 a1 a2 a3 a4 a5) : w.cell? ⟨g, 5, none⟩ = some a5 := by rw [cell_of_row w g 5 _ _ _ h]; rfl
theorem T6.fr (h : T6 w g a0 a1 a2 a3 a4 a5) (j : Nat) : w.frozen? ⟨g, j, none⟩ = false := frozen_of_row w g j _ _ h
theorem T6.s0 (h : T6 w g a0 a1 a2 a3 a4 a5) (x : Value) : T6 (w.setCell ⟨g, 0, none⟩ x) g x a1 a2 a3 a4 a5 := heap_setCell_same w g 0 _ _ _ h
theorem T6.s1 (h : T6 w g a0 a1 a2 a3 a4 a5) (x : Value) : T6 (w.setCell ⟨g, 1, none⟩ x) g a0 x a2 a3 a4 a5 := heap_setCell_same w g 1 _ _ _ h
theorem T6.s2 (h : T6 w g a0 a1 a2 a3 a4 a5) (x : Value) : T6 (w.setCell ⟨g, 2, none⟩ x) g a0 a1 x a3 a4 a5 := heap_setCell_same w g 2 _ _ _ h
theorem T6.s3 (h : T6 w g a0 a1 a2 a3 a4 a5) (x : Value) : T6 (w.setCell ⟨g, 3, none⟩ x) g a0 a1 a2 x a4 a5 := heap_setCell_same w g 3 _ _ _ h
theorem T6.s4 (h : T6 w g a0 a1 a2 a3 a4 a5) (x : Value) : T6 (w.setCell ⟨g, 4, none⟩ x) g a0 a1 a2 a3 x a5 := heap_setCell_same w g 4 _ _ _ h
theorem T6.s5 (h : T6 w g a0 a1 a2 a3 a4 a5) (x : Value) : T6 (w.setCell ⟨g, 5, none⟩ x) g a0 a1 a2 a3 a4 x := heap_setCell_same w g 5 _ _ _ h
def set6 (w : World) (g : Nat) (x0 x1 x2 x3 x4 x5 : Value) : World := (((((w.setCell ⟨g, 0, none⟩ x0).setCell ⟨g, 1, none⟩ x1).setCell ⟨g, 2, none⟩ x2).setCell ⟨g, 3, none⟩ x3).setCell ⟨g, 4, none⟩ x4).setCell ⟨g, 5, none⟩ x5
theorem T6.s6 (h : T6 w g a0 a1 a2 a3 a4 a5) (x0 x1 x2 x3 x4 x5 : Value) : T6 (set6 w g x0 x1 x2 x3 x4 x5) g x0 x1 x2 x3 x4 x5 := (((((h.s0 x0).s1 x1).s2 x2).s3 x3).s4 x4).s5 x5
theorem set6_other (w : World) {g k : Nat} (h : k ≠ g) (x0 x1 x2 x3 x4 x5 : Value) : (set6 w g x0 x1 x2 x3 x4 x5).heap[k]? = w.heap[k]? := by
  unfold set6
  rw [Below.heap_setCell _ _ _ _ h, Below.heap_setCell _ _ _ _ h, Below.heap_setCell _ _ _ _ h, Below.heap_setCell _ _ _ _ h, Below.heap_setCell _ _ _ _ h, Below.heap_setCell _ _ _ _ h]
theorem T6.other {k g' : Nat} (h : T6 w g a0 a1 a2 a3 a4 a5) (hne : g ≠ g') (x : Value) : T6 (w.setCell ⟨g', k, none⟩ x) g a0 a1 a2 a3 a4 a5 := (Below.heap_setCell _ _ _ _ hne).trans h
theorem T6.keep {B : Nat} (h : T6 w g a0 a1 a2 a3 a4 a5) (hb : Below B w w') (hg : g < B) : T6 w' g a0 a1 a2 a3 a4 a5 := (hb.block g hg).trans h
end
theorem below_set6 {B : Nat} {a w : World} (h : Below B a w) {g : Nat} (hg : B ≤ g) (x0 x1 x2 x3 x4 x5 : Value) : Below B a (set6 w g x0 x1 x2 x3 x4 x5) := (((((h.setCell hg x0).setCell hg x1).setCell hg x2).setCell hg x3).setCell hg x4).setCell hg x5
/-- A spot. -/
def spotV (l c o : Int) : Value := .agg #[.int .i64 l, .int .i64 c, .int .i64 o]
set_option maxHeartbeats 400000 in
theorem start_any (w : World) :
    Calls Tryz.prog 81 #[] w fun e w' => e = .returned (.agg #[.int .i64 1, .int .i64 1, .int .i64 0]) ∧ Below w.heap.size w w' := by
  go_enter Tryz.func81, Tryz.ntmps81
  go_wp2
  refine bodyPost_ret (results_cell_row rfl _ _ w.heap.size _ _ _ _ rfl (heap_alloc_new _ _) Tryz.underlying29 rfl (by kernel_rfl)) rfl ?_
  exact ⟨rfl, below_alloc _ _⟩
set_option maxHeartbeats 400000 in
theorem behind_any (w : World) (l c o : Int) (r : Nat) :
    Calls Tryz.prog 109 #[.agg #[.int .i64 l, .int .i64 c, .int .i64 o], .int .i32 (r : Int)] w fun e w' => e = .returned (.agg #[.int .i64 (Tk.beh (l, c) r).1, .int .i64 (Tk.beh (l, c) r).2, .int .i64 o]) ∧ Below w.heap.size w w' := by
  by_cases hr : r = 10
  · subst hr
    go_enter Tryz.func109, Tryz.ntmps109
    go_wp2
    refine bodyPost_ret (results_cell_row rfl _ _ (w.heap.size + 1) _ _ _ _ rfl (heap_alloc2_new _ _ _) Tryz.underlying29 rfl (by kernel_rfl)) rfl ?_
    exact ⟨rfl, below_alloc2 _ _ _⟩
  · have hne : ((r : Int) == 10) = false := by simp; omega
    have e : Tk.beh (l, c) r = (l, Tk.bump c) := if_neg hr
    rw [e]
    clear hr e
    go_enter Tryz.func109, Tryz.ntmps109
    go_wp2
    refine bodyPost_ret (results_cell_row rfl _ _ (w.heap.size + 1) _ _ _ _ rfl (heap_alloc2_new _ _ _) Tryz.underlying29 rfl (by kernel_rfl)) rfl ?_
    exact ⟨rfl, below_alloc2 _ _ _⟩
end Go.Proofs.YtcidldgenogdkaaGreatDoor.Tw

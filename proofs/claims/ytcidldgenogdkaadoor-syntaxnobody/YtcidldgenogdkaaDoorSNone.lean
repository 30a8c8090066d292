/-
  The calls on a table that no call made: each refuses. No condition.
-/
import Derived.Test.YtcidldgenogdkaaDoorSFace
namespace Go.Proofs.YtcidldgenogdkaaDoor
open Go.RowKit Go.Maps
open Fm (Nd)
open Sx (Tn T)

/-- A pointer at which the call made answers false, from the world w on. -/
def Nob (w : World) (pv : Value) : Prop := ∀ w', Below w.heap.size w w' → Calls Tryd.prog 26 #[pv] w' fun e w'' => e = .returned (.bool false) ∧ w'' = w'
theorem Nob.later {w w1 : World} {pv : Value} (h : Nob w pv) (hb : Below w.heap.size w w1) : Nob w1 pv := fun w' hb' => h w' (hb.trans (hb'.mono hb.size))
theorem Nob.here {w : World} {pv : Value} (h : Nob w pv) : Calls Tryd.prog 26 #[pv] w fun e w'' => e = .returned (.bool false) ∧ w'' = w := h w (Below.refl _ _)
theorem nob_nil (w : World) : Nob w (.pointer none) := fun w' _ => made_nil w'
theorem nob_zero (w : World) (b : Nat) (h : w.heap[b]? = some (.cells #[.slice none 0 0, .map none] 28 (0, 0))) : Nob w (.pointer (some ⟨b, 0, none⟩)) := fun w' hb => made_any w' b none (by rw [cell_of_row _ _ 1 _ _ _ ((hb.block b (lt_of_block h)).trans h)]; rfl)
section
variable (w : World) {pv : Value}
set_option maxHeartbeats 400000 in
theorem below_none (h : Nob w pv) (x : Int) :
    Calls Tryd.prog 19 #[pv, .int .i64 x] w fun e w' => e = .returned (.tuple #[.slice none 0 0, .int .i64 1]) ∧ w' = w := by
  have K := show Hid (Calls Tryd.prog 26 #[pv] w fun e w'' => e = .returned (.bool false) ∧ w'' = w) from h.here
  clear h
  go_enter Tryd.func19, Tryd.ntmps19
  go_wp2_with fail
  refine K.out.mono ?_
  rintro e w1 ⟨rfl, hw⟩
  subst w1
  go_wp2_with fail
  go_ret2
  exact ⟨rfl, rfl⟩
set_option maxHeartbeats 400000 in
theorem smade_none (h : Nob w pv) : Calls Tryd.prog 13 #[pv] w fun e w' => e = .returned (.bool false) ∧ w' = w := by
  have K := show Hid (Calls Tryd.prog 19 #[pv, .int .i64 (-1)] w fun e w' => e = .returned (.tuple #[.slice none 0 0, .int .i64 1]) ∧ w' = w) from below_none w h (-1)
  clear h
  go_enter Tryd.func13, Tryd.ntmps13
  go_wp2_with fail
  refine K.out.mono ?_
  rintro e w1 ⟨rfl, hw⟩
  subst w1
  go_wp2_with fail
  go_ret
  exact ⟨rfl, rfl⟩
theorem below_s4 {w w1 : World} {g : Nat} (h : Below w.heap.size w w1) (hg : w.heap.size ≤ g) (x y z u : Value) : Below w.heap.size w ((((w1.setCell ⟨g, 0, none⟩ x).setCell ⟨g, 1, none⟩ y).setCell ⟨g, 2, none⟩ z).setCell ⟨g, 3, none⟩ u) := (((h.setCell hg x).setCell hg y).setCell hg z).setCell hg u
set_option maxHeartbeats 1000000 in
theorem parse_none (h : Nob w pv) (s : ByteArray) :
    Calls Tryd.prog 6 #[pv, .string s] w fun e w' => e = .returned (.tuple #[.int .i64 0, .agg #[.int .i64 1, .int .i64 0, .int .i64 0, .int .i64 0]]) ∧ Below w.heap.size w w' := by
  have KM := show Hid (∀ w1, Below w.heap.size w w1 → Calls Tryd.prog 13 #[pv] w1 fun e w' => e = .returned (.bool false) ∧ w' = w1) from fun w1 hb => smade_none w1 (h.later hb)
  clear h
  go_enter Tryd.func6, Tryd.ntmps6
  go_wp2_with fail
  have b0 := show Hid (Below w.heap.size w (w.alloc (Obj.cells #[.int .i64 0, .int .i64 0, .int .i64 0, .int .i64 0] 35)) ∧ Fl (w.alloc (Obj.cells #[.int .i64 0, .int .i64 0, .int .i64 0, .int .i64 0] 35)) w.heap.size 0 0 0 0) from ⟨below_alloc _ _, fl_new _ _ _ _ _⟩
  refine (KM.out _ b0.out.1).mono ?_
  rintro e w1 ⟨rfl, hw⟩
  subst w1
  have r0 := b0.out.2.c0; have r1 := b0.out.2.c1; have r2 := b0.out.2.c2; have r3 := b0.out.2.c3; have rf := b0.out.2.fr
  generalize w.alloc (Obj.cells #[.int .i64 0, .int .i64 0, .int .i64 0, .int .i64 0] 35) = w0 at *
  clear KM
  go_wp2_with fail
  refine bodyPost_ret (results_tmp_cell rfl _ _ w.heap.size _ _ _ _ rfl (b0.out.2.s4 1 0 0 0) Tryd.underlying35 rfl (by kernel_rfl)) rfl ?_
  exact ⟨rfl, below_s4 b0.out.1 (Nat.le_refl _) _ _ _ _⟩
set_option maxHeartbeats 1000000 in
theorem take_none (h : Nob w pv) (p : Option Addr) (n c : Nat) :
    Calls Tryd.prog 7 #[pv, .slice p n c] w fun e w' => e = .returned (.tuple #[.int .i64 0, .int .i64 0, .agg #[.int .i64 1, .int .i64 0, .int .i64 0, .int .i64 0]]) ∧ Below w.heap.size w w' := by
  have KM := show Hid (∀ w1, Below w.heap.size w w1 → Calls Tryd.prog 13 #[pv] w1 fun e w' => e = .returned (.bool false) ∧ w' = w1) from fun w1 hb => smade_none w1 (h.later hb)
  clear h
  go_enter Tryd.func7, Tryd.ntmps7
  go_wp2_with fail
  have b0 := show Hid (Below w.heap.size w (w.alloc (Obj.cells #[.int .i64 0, .int .i64 0, .int .i64 0, .int .i64 0] 35)) ∧ Fl (w.alloc (Obj.cells #[.int .i64 0, .int .i64 0, .int .i64 0, .int .i64 0] 35)) w.heap.size 0 0 0 0) from ⟨below_alloc _ _, fl_new _ _ _ _ _⟩
  refine (KM.out _ b0.out.1).mono ?_
  rintro e w1 ⟨rfl, hw⟩
  subst w1
  have r0 := b0.out.2.c0; have r1 := b0.out.2.c1; have r2 := b0.out.2.c2; have r3 := b0.out.2.c3; have rf := b0.out.2.fr
  generalize w.alloc (Obj.cells #[.int .i64 0, .int .i64 0, .int .i64 0, .int .i64 0] 35) = w0 at *
  clear KM
  go_wp2_with fail
  refine bodyPost_ret (results_tmp2_cell rfl _ _ w.heap.size _ _ _ _ rfl (b0.out.2.s4 1 0 0 0) Tryd.underlying35 rfl (by kernel_rfl)) rfl ?_
  exact ⟨rfl, below_s4 b0.out.1 (Nat.le_refl _) _ _ _ _⟩
set_option maxHeartbeats 1000000 in
theorem print_none (h : Nob w pv) (i : Int) :
    Calls Tryd.prog 8 #[pv, .int .i64 i] w fun e w' => e = .returned (.tuple #[.string ⟨#[]⟩, .int .i64 1]) ∧ w' = w := by
  have K := show Hid (Calls Tryd.prog 19 #[pv, .int .i64 i] w fun e w' => e = .returned (.tuple #[.slice none 0 0, .int .i64 1]) ∧ w' = w) from below_none w h i
  clear h
  go_enter Tryd.func8, Tryd.ntmps8
  go_wp2_with fail
  refine K.out.mono ?_
  rintro e w1 ⟨rfl, hw⟩
  subst w1
  go_wp2_with fail
  go_ret2
  exact ⟨rfl, rfl⟩
end
end Go.Proofs.YtcidldgenogdkaaDoor

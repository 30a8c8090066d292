/-
  The calls of a table that no call made: each refuses. No condition.
-/
import Derived.Test.YthfedlodikbdgaaFBelow
import Derived.Test.YthfedlodikbdgaaFCutC
namespace Go.Proofs.Ythfedlodikbdgaa
open Go.RowKit Go.Maps
open Fm (Nd)

theorem N4.alloc {w : World} {g : Nat} {n : Nd} (h : N4 w g n) (o : Obj) : N4 (w.alloc o) g n := (Below.heap_alloc w o g (lt_of_block h)).trans h
/-- A pointer at which the call made answers false, from the world w on. -/
def Nob (w : World) (pv : Value) : Prop := ∀ w', Below w.heap.size w w' → Calls Try.prog 59 #[pv] w' fun e w'' => e = .returned (.bool false) ∧ w'' = w'
theorem Nob.later {w w1 : World} {pv : Value} (h : Nob w pv) (hb : Below w.heap.size w w1) : Nob w1 pv := fun w' hb' => h w' (hb.trans (hb'.mono hb.size))
theorem Nob.here {w : World} {pv : Value} (h : Nob w pv) : Calls Try.prog 59 #[pv] w fun e w'' => e = .returned (.bool false) ∧ w'' = w := h w (Below.refl _ _)
theorem nob_nil (w : World) : Nob w (.pointer none) := fun w' _ => made_nil w'
theorem nob_zero (w : World) (b : Nat) (h : w.heap[b]? = some (.cells #[.slice none 0 0, .map none] 68 (0, 0))) : Nob w (.pointer (some ⟨b, 0, none⟩)) := fun w' hb => made_any w' b none (by rw [cell_of_row _ _ 1 _ _ _ ((hb.block b (lt_of_block h)).trans h)]; rfl)
section
variable (w : World) {pv : Value}
set_option maxHeartbeats 400000 in
theorem has_none (h : Nob w pv) (i : Int) :
    Calls Try.prog 60 #[pv, .int .i64 i] w fun e w' => e = .returned (.bool false) ∧ w' = w := by
  have K := show Hid (Calls Try.prog 59 #[pv] w fun e w'' => e = .returned (.bool false) ∧ w'' = w) from h.here
  clear h
  go_enter Try.func60, Try.ntmps60
  go_wp2_with fail
  refine K.out.mono ?_
  rintro e w1 ⟨rfl, hw⟩
  subst w1
  go_wp2_with fail
  go_ret
  exact ⟨rfl, rfl⟩
set_option maxHeartbeats 400000 in
theorem put_none (h : Nob w pv) (n : Nd) :
    Calls Try.prog 39 #[pv, ndV n] w fun e w' => e = .returned (.tuple #[.int .i64 0, .int .i64 1]) ∧ Below w.heap.size w w' := by
  have K := show Hid (∀ w', Below w.heap.size w w' → Calls Try.prog 59 #[pv] w' fun e w'' => e = .returned (.bool false) ∧ w'' = w') from h
  unfold ndV
  clear h
  go_enter Try.func39, Try.ntmps39
  go_wp2_with fail
  refine (K.out _ (below_alloc _ _)).mono ?_
  rintro e w1 ⟨rfl, hw⟩
  subst w1
  go_wp2_with fail
  go_ret2
  exact ⟨rfl, below_alloc _ _⟩
set_option maxHeartbeats 400000 in
theorem atom_none (h : Nob w pv) (s : ByteArray) :
    Calls Try.prog 33 #[pv, .string s] w fun e w' => e = .returned (.tuple #[.int .i64 0, .int .i64 1]) ∧ Below w.heap.size w w' := by
  have K := show Hid (Calls Try.prog 39 #[pv, .agg #[.int .i64 1, .string s, .int .i64 0, .int .i64 0]] w fun e w' => e = .returned (.tuple #[.int .i64 0, .int .i64 1]) ∧ Below w.heap.size w w') from put_none w h ⟨1, s, 0, 0⟩
  clear h
  go_enter Try.func33, Try.ntmps33
  go_wp2_with fail
  refine K.out.mono ?_
  rintro e w1 ⟨rfl, hb⟩
  have HB := show Hid (Below w.heap.size w w1) from hb
  clear hb
  go_wp2_with fail
  go_ret2
  exact ⟨rfl, HB.out⟩
set_option maxHeartbeats 400000 in
theorem bot_none (h : Nob w pv) :
    Calls Try.prog 95 #[pv] w fun e w' => e = .returned (.tuple #[.int .i64 0, .int .i64 1]) ∧ Below w.heap.size w w' := by
  have K := show Hid (Calls Try.prog 39 #[pv, .agg #[.int .i64 2, .string ⟨#[]⟩, .int .i64 0, .int .i64 0]] w fun e w' => e = .returned (.tuple #[.int .i64 0, .int .i64 1]) ∧ Below w.heap.size w w') from put_none w h ⟨2, ⟨#[]⟩, 0, 0⟩
  clear h
  go_enter Try.func95, Try.ntmps95
  go_wp2_with fail
  refine K.out.mono ?_
  rintro e w1 ⟨rfl, hb⟩
  have HB := show Hid (Below w.heap.size w w1) from hb
  clear hb
  go_wp2_with fail
  go_ret2
  exact ⟨rfl, HB.out⟩
set_option maxHeartbeats 400000 in
set_option maxHeartbeats 400000 in
set_option maxHeartbeats 400000 in
theorem imp_none (h : Nob w pv) (x y : Int) :
    Calls Try.prog 34 #[pv, .int .i64 x, .int .i64 y] w fun e w' => e = .returned (.tuple #[.int .i64 0, .int .i64 1]) ∧ Below w.heap.size w w' := by
  have K := show Hid (Calls Try.prog 39 #[pv, .agg #[.int .i64 5, .string ⟨#[]⟩, .int .i64 x, .int .i64 y]] w fun e w' => e = .returned (.tuple #[.int .i64 0, .int .i64 1]) ∧ Below w.heap.size w w') from put_none w h ⟨5, ⟨#[]⟩, x, y⟩
  clear h
  go_enter Try.func34, Try.ntmps34
  go_wp2_with fail
  refine K.out.mono ?_
  rintro e w1 ⟨rfl, hb⟩
  have HB := show Hid (Below w.heap.size w w1) from hb
  clear hb
  go_wp2_with fail
  go_ret2
  exact ⟨rfl, HB.out⟩
set_option maxHeartbeats 400000 in
set_option maxHeartbeats 400000 in
theorem cut_none0 (h : Nob w pv) (x : Int) :
    Calls Try.prog 63 #[pv, .int .i64 x] w fun e w' => e = .returned (.int .i64 1) ∧ w' = w := by
  have K := show Hid (Calls Try.prog 59 #[pv] w fun e w'' => e = .returned (.bool false) ∧ w'' = w) from h.here
  clear h
  go_enter Try.func63, Try.ntmps63
  go_wp2_with fail
  refine K.out.mono ?_
  rintro e w1 ⟨rfl, hw⟩
  subst w1
  go_wp2_with fail
  go_ret
  exact ⟨rfl, rfl⟩
set_option maxHeartbeats 400000 in
theorem below_none (h : Nob w pv) (x : Int) :
    Calls Try.prog 48 #[pv, .int .i64 x] w fun e w' => e = .returned (.tuple #[.slice none 0 0, .int .i64 1]) ∧ w' = w := by
  have K := show Hid (Calls Try.prog 59 #[pv] w fun e w'' => e = .returned (.bool false) ∧ w'' = w) from h.here
  clear h
  go_enter Try.func48, Try.ntmps48
  go_wp2_with fail
  refine K.out.mono ?_
  rintro e w1 ⟨rfl, hw⟩
  subst w1
  go_wp2_with fail
  go_ret2
  exact ⟨rfl, rfl⟩
set_option maxHeartbeats 400000 in
theorem len_none (h : Nob w pv) :
    Calls Try.prog 23 #[pv] w fun e w' => e = .returned (.int .i64 0) ∧ w' = w := by
  have K := show Hid (Calls Try.prog 59 #[pv] w fun e w'' => e = .returned (.bool false) ∧ w'' = w) from h.here
  clear h
  go_enter Try.func23, Try.ntmps23
  go_wp2_with fail
  refine K.out.mono ?_
  rintro e w1 ⟨rfl, hw⟩
  subst w1
  go_wp2_with fail
  go_ret
  exact ⟨rfl, rfl⟩
set_option maxHeartbeats 400000 in
theorem rows_none (h : Nob w pv) :
    Calls Try.prog 46 #[pv] w fun e w' => e = .returned (.slice none 0 0) ∧ w' = w := by
  have K := show Hid (Calls Try.prog 59 #[pv] w fun e w'' => e = .returned (.bool false) ∧ w'' = w) from h.here
  clear h
  go_enter Try.func46, Try.ntmps46
  go_wp2_with fail
  refine K.out.mono ?_
  rintro e w1 ⟨rfl, hw⟩
  subst w1
  go_wp2_with fail
  go_ret
  exact ⟨rfl, rfl⟩
set_option maxHeartbeats 400000 in
set_option maxHeartbeats 400000 in
set_option maxHeartbeats 1000000 in
theorem node_none (h : Nob w pv) (i : Int) :
    Calls Try.prog 28 #[pv, .int .i64 i] w fun e w' => e = .returned (.tuple #[.agg #[.int .i64 0, .string ⟨#[]⟩, .int .i64 0, .int .i64 0], .bool false]) ∧ Below w.heap.size w w' := by
  obtain ⟨w0, hw0⟩ : ∃ w0, w0 = w.alloc (Obj.cells #[.int .i64 0, .string ⟨#[]⟩, .int .i64 0, .int .i64 0] 59) := ⟨_, rfl⟩
  have HB := show Hid (Below w.heap.size w w0) from by rw [hw0]; exact below_alloc w _
  have HR := show Hid (N4 w0 w.heap.size Fm.z) from by rw [hw0]; exact heap_alloc_new w _
  have KH := show Hid (∀ w', Below w.heap.size w w' → Calls Try.prog 60 #[pv, .int .i64 i] w' fun e w'' => e = .returned (.bool false) ∧ w'' = w') from fun w' hb => has_none w' (h.later hb) i
  clear h
  go_enter Try.func28, Try.ntmps28
  go_wp2_with fail
  rw [← hw0]
  clear hw0
  refine (KH.out _ HB.out).mono ?_
  rintro e w' ⟨rfl, hw'⟩
  subst w'
  have d0 := HR.out.c0; have d1 := HR.out.c1; have d2 := HR.out.c2; have d3 := HR.out.c3; have df := HR.out.fr
  go_wp2_with fail
  refine bodyPost_ret (results_cell_tmp rfl _ _ w.heap.size _ _ _ _ rfl (HR.out.set Fm.z) Try.underlying59 rfl (by kernel_rfl)) rfl ?_
  exact ⟨rfl, below_set4 HB.out (Nat.le_refl _) _ _ _ _⟩
end
end Go.Proofs.Ythfedlodikbdgaa

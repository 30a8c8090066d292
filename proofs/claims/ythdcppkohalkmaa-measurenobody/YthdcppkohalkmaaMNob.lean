/-
  The calls of measure at a table that no call made: each refuses; and the law MeasureNobody, as the program walks it. No condition.
-/
import Derived.Test.YthdcppkohalkmaaMHeads
namespace Go.Proofs.Ythdcppkohalkmaa
open Go.RowKit Go.Maps Go.Sort Go.Lib
open Fm (Nd)

/-- A pointer at which the call made answers false, from the world w on. -/
def Nob (w : World) (pv : Value) : Prop := ∀ w', Below w.heap.size w w' → Calls Try.prog 45 #[pv] w' fun e w'' => e = .returned (.bool false) ∧ w'' = w'
theorem Nob.later {w w1 : World} {pv : Value} (h : Nob w pv) (hb : Below w.heap.size w w1) : Nob w1 pv := fun w' hb' => h w' (hb.trans (hb'.mono hb.size))
theorem nob_nil (w : World) : Nob w (.pointer none) := fun w' _ => made_nil w'
theorem nob_zero (w : World) (b : Nat) (h : w.heap[b]? = some (.cells #[.slice none 0 0, .map none] 31 (0, 0))) : Nob w (.pointer (some ⟨b, 0, none⟩)) := fun w' hb => made_any w' b none (by rw [cell_of_row _ _ 1 _ _ _ ((hb.block b (lt_of_block h)).trans h)]; rfl)
section
variable (w : World) {pv : Value}
set_option maxHeartbeats 400000 in
theorem below_none (h : Nob w pv) (x : Int) :
    Calls Try.prog 53 #[pv, .int .i64 x] w fun e w' => e = .returned (.tuple #[.slice none 0 0, .int .i64 1]) ∧ w' = w := by
  have K := show Hid (Calls Try.prog 45 #[pv] w fun e w'' => e = .returned (.bool false) ∧ w'' = w) from h w (Below.refl _ _)
  clear h
  go_enter Try.func53, Try.ntmps53
  go_wp2_with fail
  refine K.out.mono ?_
  rintro e w1 ⟨rfl, hw⟩
  subst w1
  go_wp2_with fail
  go_ret2
  exact ⟨rfl, rfl⟩
set_option maxHeartbeats 400000 in
theorem refused_none (h : Nob w pv) (q : Option Addr) (n c : Nat) :
    Calls Try.prog 34 #[pv, .slice q n c] w fun e w' => e = .returned (.int .i64 1) ∧ w' = w := by
  have K := show Hid (Calls Try.prog 53 #[pv, .int .i64 (-1)] w fun e w' => e = .returned (.tuple #[.slice none 0 0, .int .i64 1]) ∧ w' = w) from below_none w h (-1)
  clear h
  go_enter Try.func34, Try.ntmps34
  go_wp2_with fail
  refine K.out.mono ?_
  rintro e w1 ⟨rfl, hw⟩
  subst w1
  go_wp2_with fail
  go_ret
  exact ⟨rfl, rfl⟩
set_option maxHeartbeats 400000 in
theorem belowM_none (h : Nob w pv) (x : Int) :
    Calls Try.prog 40 #[pv, .int .i64 x] w fun e w' => e = .returned (.slice none 0 0) ∧ w' = w := by
  have K := show Hid (Calls Try.prog 53 #[pv, .int .i64 x] w fun e w' => e = .returned (.tuple #[.slice none 0 0, .int .i64 1]) ∧ w' = w) from below_none w h x
  clear h
  go_enter Try.func40, Try.ntmps40
  go_wp2_with fail
  refine K.out.mono ?_
  rintro e w1 ⟨rfl, hw⟩
  subst w1
  go_wp2_with fail
  go_ret
  exact ⟨rfl, rfl⟩
set_option maxHeartbeats 400000 in
theorem within_none (h : Nob w pv) (part x : Int) :
    Calls Try.prog 20 #[pv, .int .i64 part, .int .i64 x] w fun e w' => e = .returned (.bool false) ∧ Below w.heap.size w w' := by
  have K := show Hid (Calls Try.prog 40 #[pv, .int .i64 x] w fun e w' => e = .returned (.slice none 0 0) ∧ w' = w) from belowM_none w h x
  have K2 := show Hid (Calls Try.prog 39 #[.slice none 0 0, .int .i64 part] w fun e w' => e = .returned (.tuple #[.int .i64 0, .bool false]) ∧ w' = w) from Try.slices_BinarySearch_int_empty none 0 part w
  clear h
  go_enter Try.func20, Try.ntmps20
  go_wp2_with fail
  refine K.out.mono ?_
  rintro e w1 ⟨rfl, hw⟩
  subst w1
  go_wp2_with fail
  refine K2.out.mono ?_
  rintro e w1 ⟨rfl, hw⟩
  subst w1
  go_wp2_with fail
  go_ret
  exact ⟨rfl, Below.refl _ _⟩
set_option maxHeartbeats 400000 in
theorem measured_none (h : Nob w pv) (x : Int) (fv : Value) :
    Calls Try.prog 29 #[pv, .int .i64 x, fv] w fun e w' => e = .returned (.tuple #[.int .i64 0, .int .i64 1]) ∧ Below w.heap.size w w' := by
  have K := show Hid (Calls Try.prog 34 #[pv, .slice (some ⟨w.heap.size, 0, none⟩) 1 1] (w.alloc (Obj.cells #[.int .i64 x] 3)) fun e w' => e = .returned (.int .i64 1) ∧ w' = w.alloc (Obj.cells #[.int .i64 x] 3)) from refused_none _ (h.later (below_alloc _ _)) _ _ _
  clear h
  go_enter Try.func29, Try.ntmps29
  go_wp2_with fail
  refine K.out.mono ?_
  rintro e w1 ⟨rfl, rfl⟩
  go_wp2_with fail
  go_ret2
  exact ⟨rfl, below_alloc _ _⟩
set_option maxHeartbeats 400000 in
theorem Size_none (h : Nob w pv) (x : Int) :
    Calls Try.prog 13 #[pv, .int .i64 x] w fun e w' => e = .returned (.tuple #[.int .i64 0, .int .i64 1]) ∧ Below w.heap.size w w' := by
  have K := show Hid (Calls Try.prog 29 #[pv, .int .i64 x, .func (.func 30) #[] #[]] w fun e w' => e = .returned (.tuple #[.int .i64 0, .int .i64 1]) ∧ Below w.heap.size w w') from measured_none w h x _
  clear h
  go_enter Try.func13, Try.ntmps13
  go_wp2_with fail
  refine K.out.mono ?_
  rintro e w1 ⟨rfl, hb⟩
  have HB := show Hid (Below w.heap.size w w1) from hb
  clear hb K
  go_wp2_with fail
  go_ret2
  exact ⟨rfl, HB.out⟩
set_option maxHeartbeats 400000 in
theorem Depth_none (h : Nob w pv) (x : Int) :
    Calls Try.prog 15 #[pv, .int .i64 x] w fun e w' => e = .returned (.tuple #[.int .i64 0, .int .i64 1]) ∧ Below w.heap.size w w' := by
  have K := show Hid (Calls Try.prog 29 #[pv, .int .i64 x, .func (.func 32) #[] #[]] w fun e w' => e = .returned (.tuple #[.int .i64 0, .int .i64 1]) ∧ Below w.heap.size w w') from measured_none w h x _
  clear h
  go_enter Try.func15, Try.ntmps15
  go_wp2_with fail
  refine K.out.mono ?_
  rintro e w1 ⟨rfl, hb⟩
  have HB := show Hid (Below w.heap.size w w1) from hb
  clear hb K
  go_wp2_with fail
  go_ret2
  exact ⟨rfl, HB.out⟩
set_option maxHeartbeats 400000 in
theorem Weight_none (h : Nob w pv) (x : Int) :
    Calls Try.prog 14 #[pv, .int .i64 x] w fun e w' => e = .returned (.tuple #[.int .i64 0, .int .i64 1]) ∧ Below w.heap.size w w' := by
  have K := show Hid (Calls Try.prog 29 #[pv, .int .i64 x, .func (.func 31) #[] #[]] w fun e w' => e = .returned (.tuple #[.int .i64 0, .int .i64 1]) ∧ Below w.heap.size w w') from measured_none w h x _
  clear h
  go_enter Try.func14, Try.ntmps14
  go_wp2_with fail
  refine K.out.mono ?_
  rintro e w1 ⟨rfl, hb⟩
  have HB := show Hid (Below w.heap.size w w1) from hb
  clear hb K
  go_wp2_with fail
  go_ret2
  exact ⟨rfl, HB.out⟩
set_option maxHeartbeats 400000 in
theorem Grade_none (h : Nob w pv) (x : Int) :
    Calls Try.prog 16 #[pv, .int .i64 x] w fun e w' => e = .returned (.tuple #[.int .i64 0, .int .i64 1]) ∧ Below w.heap.size w w' := by
  have K := show Hid (Calls Try.prog 29 #[pv, .int .i64 x, .func (.func 33) #[] #[]] w fun e w' => e = .returned (.tuple #[.int .i64 0, .int .i64 1]) ∧ Below w.heap.size w w') from measured_none w h x _
  clear h
  go_enter Try.func16, Try.ntmps16
  go_wp2_with fail
  refine K.out.mono ?_
  rintro e w1 ⟨rfl, hb⟩
  have HB := show Hid (Below w.heap.size w w1) from hb
  clear hb K
  go_wp2_with fail
  go_ret2
  exact ⟨rfl, HB.out⟩
set_option maxHeartbeats 400000 in
theorem Atoms_none (h : Nob w pv) (x : Int) :
    Calls Try.prog 21 #[pv, .int .i64 x] w fun e w' => e = .returned (.tuple #[.slice none 0 0, .int .i64 1]) ∧ Below w.heap.size w w' := by
  have K := show Hid (Calls Try.prog 34 #[pv, .slice (some ⟨w.heap.size, 0, none⟩) 1 1] (w.alloc (Obj.cells #[.int .i64 x] 3)) fun e w' => e = .returned (.int .i64 1) ∧ w' = w.alloc (Obj.cells #[.int .i64 x] 3)) from refused_none _ (h.later (below_alloc _ _)) _ _ _
  clear h
  go_enter Try.func21, Try.ntmps21
  go_wp2_with fail
  refine K.out.mono ?_
  rintro e w1 ⟨rfl, rfl⟩
  go_wp2_with fail
  go_ret2
  exact ⟨rfl, below_alloc _ _⟩
set_option maxHeartbeats 400000 in
theorem Signs_none (h : Nob w pv) (x : Int) :
    Calls Try.prog 17 #[pv, .int .i64 x] w fun e w' => e = .returned (.tuple #[.slice none 0 0, .slice none 0 0, .int .i64 1]) ∧ Below w.heap.size w w' := by
  have K := show Hid (Calls Try.prog 34 #[pv, .slice (some ⟨w.heap.size, 0, none⟩) 1 1] (w.alloc (Obj.cells #[.int .i64 x] 3)) fun e w' => e = .returned (.int .i64 1) ∧ w' = w.alloc (Obj.cells #[.int .i64 x] 3)) from refused_none _ (h.later (below_alloc _ _)) _ _ _
  clear h
  go_enter Try.func17, Try.ntmps17
  go_wp2_with fail
  refine K.out.mono ?_
  rintro e w1 ⟨rfl, rfl⟩
  go_wp2_with fail
  refine bodyPost_ret (results_three rfl _ _ ()) rfl ?_
  exact ⟨rfl, below_alloc _ _⟩
set_option maxHeartbeats 400000 in
theorem Occurs_none (h : Nob w pv) (part x : Int) :
    Calls Try.prog 18 #[pv, .int .i64 part, .int .i64 x] w fun e w' => e = .returned (.tuple #[.int .i64 0, .int .i64 0, .int .i64 1]) ∧ Below w.heap.size w w' := by
  have K := show Hid (Calls Try.prog 34 #[pv, .slice (some ⟨w.heap.size, 0, none⟩) 2 2] (w.alloc (Obj.cells #[.int .i64 part, .int .i64 x] 3)) fun e w' => e = .returned (.int .i64 1) ∧ w' = w.alloc (Obj.cells #[.int .i64 part, .int .i64 x] 3)) from refused_none _ (h.later (below_alloc _ _)) _ _ _
  clear h
  go_enter Try.func18, Try.ntmps18
  go_wp2_with fail
  refine K.out.mono ?_
  rintro e w1 ⟨rfl, rfl⟩
  go_wp2_with fail
  refine bodyPost_ret (results_three rfl _ _ ()) rfl ?_
  exact ⟨rfl, below_alloc _ _⟩
set_option maxHeartbeats 400000 in
theorem Weights_none (h : Nob w pv) (q : Option Addr) (n c : Nat) :
    Calls Try.prog 22 #[pv, .slice q n c] w fun e w' => e = .returned (.tuple #[.slice none 0 0, .int .i64 1]) ∧ Below w.heap.size w w' := by
  have K := show Hid (Calls Try.prog 34 #[pv, .slice q n c] w fun e w' => e = .returned (.int .i64 1) ∧ w' = w) from refused_none w h _ _ _
  clear h
  go_enter Try.func22, Try.ntmps22
  go_wp2_with fail
  refine K.out.mono ?_
  rintro e w1 ⟨rfl, hw⟩
  subst w1
  go_wp2_with fail
  go_ret2
  exact ⟨rfl, Below.refl _ _⟩
set_option maxRecDepth 100000 in
set_option maxHeartbeats 2000000 in
theorem nobody_any (h : Nob w pv) (x part : Int) :
    Calls Try.prog 8 #[pv, .int .i64 x, .int .i64 part] w fun e w' => e = .returned (.bool true) ∧ Below w.heap.size w w' := by
  have HN := show Hid (∀ w', Below w.heap.size w w' → Nob w' pv) from fun w' hb => h.later hb
  have H0 := show Hid (Below w.heap.size w w) from Below.refl _ _
  clear h
  go_enter Try.func8, Try.ntmps8
  have K1 := show Hid (Calls Try.prog 13 #[pv, .int .i64 x] w fun e w' => e = .returned (.tuple #[.int .i64 0, .int .i64 1]) ∧ Below w.heap.size w w') from Size_none w (HN.out w H0.out) x
  go_wp2_with fail
  refine K1.out.mono ?_
  rintro e w1 ⟨rfl, hb1⟩
  have H1 := show Hid (Below w.heap.size w w1) from H0.out.trans (hb1.mono H0.out.size)
  clear K1 hb1 H0
  have K2 := show Hid (Calls Try.prog 15 #[pv, .int .i64 x] w1 fun e w' => e = .returned (.tuple #[.int .i64 0, .int .i64 1]) ∧ Below w1.heap.size w1 w') from Depth_none w1 (HN.out w1 H1.out) x
  go_wp2_with fail
  refine K2.out.mono ?_
  rintro e w2 ⟨rfl, hb2⟩
  have H2 := show Hid (Below w.heap.size w w2) from H1.out.trans (hb2.mono H1.out.size)
  clear K2 hb2 H1
  have K3 := show Hid (Calls Try.prog 14 #[pv, .int .i64 x] w2 fun e w' => e = .returned (.tuple #[.int .i64 0, .int .i64 1]) ∧ Below w2.heap.size w2 w') from Weight_none w2 (HN.out w2 H2.out) x
  go_wp2_with fail
  refine K3.out.mono ?_
  rintro e w3 ⟨rfl, hb3⟩
  have H3 := show Hid (Below w.heap.size w w3) from H2.out.trans (hb3.mono H2.out.size)
  clear K3 hb3 H2
  have K4 := show Hid (Calls Try.prog 16 #[pv, .int .i64 x] w3 fun e w' => e = .returned (.tuple #[.int .i64 0, .int .i64 1]) ∧ Below w3.heap.size w3 w') from Grade_none w3 (HN.out w3 H3.out) x
  go_wp2_with fail
  refine K4.out.mono ?_
  rintro e w4 ⟨rfl, hb4⟩
  have H4 := show Hid (Below w.heap.size w w4) from H3.out.trans (hb4.mono H3.out.size)
  clear K4 hb4 H3
  have K5 := show Hid (Calls Try.prog 21 #[pv, .int .i64 x] w4 fun e w' => e = .returned (.tuple #[.slice none 0 0, .int .i64 1]) ∧ Below w4.heap.size w4 w') from Atoms_none w4 (HN.out w4 H4.out) x
  go_wp2_with fail
  refine K5.out.mono ?_
  rintro e w5 ⟨rfl, hb5⟩
  have H5 := show Hid (Below w.heap.size w w5) from H4.out.trans (hb5.mono H4.out.size)
  clear K5 hb5 H4
  have K6 := show Hid (Calls Try.prog 17 #[pv, .int .i64 x] w5 fun e w' => e = .returned (.tuple #[.slice none 0 0, .slice none 0 0, .int .i64 1]) ∧ Below w5.heap.size w5 w') from Signs_none w5 (HN.out w5 H5.out) x
  go_wp2_with fail
  refine K6.out.mono ?_
  rintro e w6 ⟨rfl, hb6⟩
  have H6 := show Hid (Below w.heap.size w w6) from H5.out.trans (hb6.mono H5.out.size)
  clear K6 hb6 H5
  have K7 := show Hid (Calls Try.prog 18 #[pv, .int .i64 part, .int .i64 x] w6 fun e w' => e = .returned (.tuple #[.int .i64 0, .int .i64 0, .int .i64 1]) ∧ Below w6.heap.size w6 w') from Occurs_none w6 (HN.out w6 H6.out) part x
  go_wp2_with fail
  refine K7.out.mono ?_
  rintro e w7 ⟨rfl, hb7⟩
  have H7 := show Hid (Below w.heap.size w w7) from H6.out.trans (hb7.mono H6.out.size)
  clear K7 hb7 H6
  have K8 := show Hid (Calls Try.prog 22 #[pv, .slice (some ⟨w7.heap.size, 0, none⟩) 1 1] (w7.alloc (Obj.cells #[.int .i64 x] 3)) fun e w' => e = .returned (.tuple #[.slice none 0 0, .int .i64 1]) ∧ Below w.heap.size w w') from (Weights_none _ (HN.out _ (H7.out.alloc H7.out.size _)) _ _ _).mono fun e w' ⟨he, hb⟩ => ⟨he, (H7.out.alloc H7.out.size _).trans (hb.mono (H7.out.alloc H7.out.size _).size)⟩
  go_wp2_with fail
  refine K8.out.mono ?_
  rintro e w8 ⟨rfl, hb8⟩
  have H8 := show Hid (Below w.heap.size w w8) from hb8
  have K9 := show Hid (Calls Try.prog 20 #[pv, .int .i64 part, .int .i64 x] w8 fun e w' => e = .returned (.bool false) ∧ Below w8.heap.size w8 w') from within_none w8 (HN.out w8 hb8) part x
  clear K8 hb8 H7
  go_wp2_with fail
  refine K9.out.mono ?_
  rintro e w9 ⟨rfl, hb9⟩
  have H9 := show Hid (Below w.heap.size w w9) from H8.out.trans (hb9.mono H8.out.size)
  clear K9 hb9 H8
  go_wp2_with fail
  go_ret
  exact ⟨rfl, H9.out⟩
end
set_option maxRecDepth 100000 in
set_option maxHeartbeats 2000000 in
theorem measureNobody_any (w : World) (x part : Int) :
    Calls Try.prog 4 #[.int .i64 x, .int .i64 part] w fun e w' => e = .returned (.bool true) ∧ Below w.heap.size w w' := by
  have K1 := show Hid (Calls Try.prog 8 #[.pointer none, .int .i64 x, .int .i64 part] w fun e w' => e = .returned (.bool true) ∧ Below w.heap.size w w') from nobody_any w (nob_nil w) x part
  have K2 := show Hid (∀ w1 : World, Calls Try.prog 8 #[.pointer (some ⟨w1.heap.size, 0, none⟩), .int .i64 x, .int .i64 part] (w1.alloc (Obj.cells #[.slice none 0 0, .map none] 31)) fun e w' => e = .returned (.bool true) ∧ Below w1.heap.size w1 w') from fun w1 => (nobody_any _ (nob_zero _ _ (heap_alloc_new _ _)) x part).mono fun e w' ⟨he, hb⟩ => ⟨he, (below_alloc w1 _).trans (hb.mono (below_alloc w1 _).size)⟩
  have K3 := show Hid (∀ w1 : World, Calls Try.prog 7 #[] w1 fun e w' => e = .returned (.bool true) ∧ Below w1.heap.size w1 w') from heads_any
  go_enter Try.func4, Try.ntmps4
  go_wp2_with fail
  refine K1.out.mono ?_
  rintro e w1 ⟨rfl, hb1⟩
  have H1 := show Hid (Below w.heap.size w w1) from hb1
  clear K1 hb1
  go_wp2_with fail
  refine (K2.out _).mono ?_
  rintro e w2 ⟨rfl, hb2⟩
  have H2 := show Hid (Below w.heap.size w w2) from H1.out.trans (hb2.mono H1.out.size)
  clear K2 hb2 H1
  go_wp2_with fail
  refine (K3.out _).mono ?_
  rintro e w3 ⟨rfl, hb3⟩
  have H3 := show Hid (Below w.heap.size w w3) from H2.out.trans (hb3.mono H2.out.size)
  clear K3 hb3 H2
  go_wp2_with fail
  go_ret
  exact ⟨rfl, H3.out⟩
end Go.Proofs.Ythdcppkohalkmaa

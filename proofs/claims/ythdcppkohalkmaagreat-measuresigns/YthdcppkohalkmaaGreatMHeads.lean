/-
  What must come at any rate: the chapter's table, its counts, atoms and order. No condition.
-/
import Derived.Test.YthdcppkohalkmaaGreatMSign
import Derived.Test.YthdcppkohalkmaaGreatFFrom
namespace Go.Proofs.YthdcppkohalkmaaGreat
open Go.RowKit Go.Maps Go.Sort Go.Lib
open Fm (Nd)

def H0 : List Nd := [⟨1, ⟨#[112]⟩, 0, 0⟩, ⟨1, ⟨#[113]⟩, 0, 0⟩, ⟨3, ⟨#[]⟩, 0, 1⟩, ⟨2, ⟨#[]⟩, 0, 0⟩, ⟨5, ⟨#[]⟩, 2, 3⟩, ⟨5, ⟨#[]⟩, 4, 0⟩]
theorem h0_from : Fm.fr [] H0 = (0, H0) := by decide +kernel
theorem h0_size : cntR H0 (Ms.sizeV H0) 4 = (5, 0) := by decide +kernel
theorem h0_weight : cntR H0 (Ms.weightV H0) 4 = (6, 0) := by decide +kernel
theorem h0_depth : cntR H0 (Ms.depthV H0) 5 = (3, 0) := by decide +kernel
theorem h0_grade : cntR H0 (Ms.gradeV H0) 5 = (2, 0) := by decide +kernel
theorem h0_occ : occR H0 0 5 = (2, 0, 0) := by decide +kernel
theorem h0_in : ((belowR H0 5).1.map fun n : Nat => (n : Int)).contains 0 = true := by decide +kernel
theorem h0_pos : namesU H0 (fun j => decide (0 < (Ms.plc H0 5 j).1)) (Fm.below H0 5) = [[112], [113]] := by decide +kernel
theorem h0_neg : namesU H0 (fun j => decide (0 < (Ms.plc H0 5 j).2)) (Fm.below H0 5) = [] := by decide +kernel
theorem h0_posS : posN H0 5 = [[112], [113]] := by
  unfold posN namesS
  rw [h0_pos]
  exact List.mergeSort_of_pairwise (by decide)
theorem h0_negS : negN H0 5 = [] := by
  unfold negN namesS
  rw [h0_neg]
  simp
theorem h0_less1 : Ms.less [3, 3, 1] [4] = true := by rw [Ms.less_eq]; decide +kernel
theorem h0_less2 : Ms.less [4, 1] [4] = false := by rw [Ms.less_eq]; decide +kernel
theorem h0_good : ∀ n ∈ H0, Fm.good n := by
  intro n hn
  simp only [H0, List.mem_cons, List.not_mem_nil, or_false] at hn
  rcases hn with rfl | rfl | rfl | rfl | rfl | rfl <;> (refine ⟨⟨by decide, by decide⟩, by decide, ⟨by decide, by decide⟩, ⟨by decide, by decide⟩⟩)
set_option maxHeartbeats 400000 in
theorem num_any (w : World) (x : Int) : Calls Tryz.prog 13 #[.int .i64 x] w fun e w' => e = .returned (.int .i64 x) ∧ w' = w := by
  go_enter Tryz.func13, Tryz.ntmps13
  go_wp2
  go_ret
  exact ⟨rfl, rfl⟩
set_option maxRecDepth 100000 in
set_option maxHeartbeats 1000000 in
theorem hrows_any (w : World) : Calls Tryz.prog 42 #[] w fun e w' => e = .returned (.slice (some ⟨w.heap.size, 0, none⟩) 6 6) ∧ w' = w.alloc (Obj.cells (cellsOf H0).toArray 72) := by
  go_enter Tryz.func42, Tryz.ntmps42
  go_wp2
  go_ret
  exact ⟨rfl, rfl⟩
theorem hrows_is (w : World) : IsR (w.alloc (Obj.cells (cellsOf H0).toArray 72)) (.slice (some ⟨w.heap.size, 0, none⟩) 6 6) H0 := by
  refine ⟨_, 6, rfl, by decide, by decide, fun _ => ⟨w.heap.size, 0, rfl, fun k hk => ?_⟩⟩
  have hc : ∀ j, j < 4 → (w.alloc (Obj.cells (cellsOf H0).toArray 72)).cell? ⟨w.heap.size, 0 + k * 4 + j, none⟩ = (ndC H0[k])[j]? := fun j hj => by
    rw [cell_of_row _ _ _ _ _ _ (heap_alloc_new _ _), Nat.zero_add, ← cellsOf_at H0 k j hk hj]
    simp
  exact ⟨hc 0 (by omega), hc 1 (by omega), hc 2 (by omega), hc 3 (by omega)⟩
theorem two_lists (w : World) {A : Array Value} {x : Int} {v : Value} {l : List Int} (h : IsL (w.alloc (Obj.cells A 3)) v l) : IsL ((w.alloc (Obj.cells A 3)).alloc (Obj.cells #[.int .i64 x] 3)) v l ∧ IsL ((w.alloc (Obj.cells A 3)).alloc (Obj.cells #[.int .i64 x] 3)) (.slice (some ⟨w.heap.size + 1, 0, none⟩) 1 1) [x] ∧ Below w.heap.size w ((w.alloc (Obj.cells A 3)).alloc (Obj.cells #[.int .i64 x] 3)) := by
  refine ⟨h.later (below_alloc _ _), ?_, (below_alloc w _).alloc (below_alloc w _).size _⟩
  have := isL1 (w.alloc (Obj.cells A 3)) x
  rwa [World.size_alloc] at this
set_option maxRecDepth 100000 in
set_option maxHeartbeats 4000000 in
theorem heads_any (w : World) : Calls Tryz.prog 14 #[] w fun e w' => e = .returned (.bool true) ∧ Below w.heap.size w w' := by
  have KN := show Hid (∀ (w : World) (x : Int), Calls Tryz.prog 13 #[.int .i64 x] w fun e w' => e = .returned (.int .i64 x) ∧ w' = w) from num_any
  have KR := show Hid (Calls Tryz.prog 42 #[] w fun e w' => e = .returned (.slice (some ⟨w.heap.size, 0, none⟩) 6 6) ∧ w' = w.alloc (Obj.cells (cellsOf H0).toArray 72)) from hrows_any w
  have KF := show Hid (Calls Tryz.prog 41 #[.slice (some ⟨w.heap.size, 0, none⟩) 6 6] (w.alloc (Obj.cells (cellsOf H0).toArray 72)) fun e w' => ∃ B M v, e = .returned (.tuple #[.pointer (some ⟨B, 0, none⟩), .int .i64 0]) ∧ Tb w' B M v H0 ∧ Below w.heap.size w w') from
    (from_any _ _ _ (hrows_is w) h0_good (by decide)).mono fun e w' h => by
      rw [h0_from] at h
      have hb : Below w.heap.size w w' := (below_alloc w _).trans (h.2.mono (below_alloc w _).size)
      rcases h.1 with ⟨_, B, M, v, he, hT, _⟩ | ⟨h0, _⟩
      · exact ⟨B, M, v, he, hT, hb⟩
      · exact absurd rfl h0
  go_enter Tryz.func14, Tryz.ntmps14
  go_wp2_with fail
  refine KR.out.mono ?_
  rintro e w1 ⟨rfl, rfl⟩
  go_wp2_with fail
  refine KF.out.mono ?_
  rintro e w2 ⟨B, M, v, rfl, hT, hb2⟩
  have HT := show Hid (∀ w', Below w2.heap.size w2 w' → Tb w' B M v H0) from fun w' h => hT.later h
  have H2 := show Hid (Below w.heap.size w w2 ∧ Below w2.heap.size w2 w2) from ⟨hb2, Below.refl _ _⟩
  clear KR KF hT hb2
  have K3 := show Hid (Calls Tryz.prog 8 #[.pointer (some ⟨B, 0, none⟩), .int .i64 4] w2 fun e w' => e = .returned (.tuple #[.int .i64 5, .int .i64 0]) ∧ Below w2.heap.size w2 w') from by
    have h := Size_any w2 (HT.out w2 H2.out.2) 4
    rw [h0_size] at h
    exact h
  go_wp2_with fail
  refine K3.out.mono ?_
  rintro e w3 ⟨rfl, hb3⟩
  have H3 := show Hid (Below w.heap.size w w3 ∧ Below w2.heap.size w2 w3) from ⟨H2.out.1.trans (hb3.mono H2.out.1.size), H2.out.2.trans (hb3.mono H2.out.2.size)⟩
  clear K3 hb3 H2
  have K4 := show Hid (Calls Tryz.prog 10 #[.pointer (some ⟨B, 0, none⟩), .int .i64 4] w3 fun e w' => e = .returned (.tuple #[.int .i64 6, .int .i64 0]) ∧ Below w3.heap.size w3 w') from by
    have h := Weight_any w3 (HT.out w3 H3.out.2) 4
    rw [h0_weight] at h
    exact h
  go_wp2_with fail
  refine K4.out.mono ?_
  rintro e w4 ⟨rfl, hb4⟩
  have H4 := show Hid (Below w.heap.size w w4 ∧ Below w2.heap.size w2 w4) from ⟨H3.out.1.trans (hb4.mono H3.out.1.size), H3.out.2.trans (hb4.mono H3.out.2.size)⟩
  clear K4 hb4 H3
  have K5 := show Hid (Calls Tryz.prog 9 #[.pointer (some ⟨B, 0, none⟩), .int .i64 5] w4 fun e w' => e = .returned (.tuple #[.int .i64 3, .int .i64 0]) ∧ Below w4.heap.size w4 w') from by
    have h := Depth_any w4 (HT.out w4 H4.out.2) 5
    rw [h0_depth] at h
    exact h
  go_wp2_with fail
  refine K5.out.mono ?_
  rintro e w5 ⟨rfl, hb5⟩
  have H5 := show Hid (Below w.heap.size w w5 ∧ Below w2.heap.size w2 w5) from ⟨H4.out.1.trans (hb5.mono H4.out.1.size), H4.out.2.trans (hb5.mono H4.out.2.size)⟩
  clear K5 hb5 H4
  have K6 := show Hid (Calls Tryz.prog 11 #[.pointer (some ⟨B, 0, none⟩), .int .i64 5] w5 fun e w' => e = .returned (.tuple #[.int .i64 2, .int .i64 0]) ∧ Below w5.heap.size w5 w') from by
    have h := Grade_any w5 (HT.out w5 H5.out.2) 5
    rw [h0_grade] at h
    exact h
  go_wp2_with fail
  refine K6.out.mono ?_
  rintro e w6 ⟨rfl, hb6⟩
  have H6 := show Hid (Below w.heap.size w w6 ∧ Below w2.heap.size w2 w6) from ⟨H5.out.1.trans (hb6.mono H5.out.1.size), H5.out.2.trans (hb6.mono H5.out.2.size)⟩
  clear K6 hb6 H5
  have K7 := show Hid (Calls Tryz.prog 23 #[.pointer (some ⟨B, 0, none⟩), .int .i64 5] w6 fun e w' => ∃ g c q2 c2, e = .returned (.tuple #[.slice (some ⟨g, 0, none⟩) 2 c, .slice q2 0 c2, .int .i64 0]) ∧ w'.cell? ⟨g, 0, none⟩ = some (.string ⟨#[112]⟩) ∧ Below w6.heap.size w6 w') from by
    refine (signs_in w6 (HT.out w6 H6.out.2) 5 (by decide)).mono ?_
    rintro e w' ⟨q, c, q2, c2, w1, rfl, _, ho, _, _, hb⟩
    rw [h0_posS] at ho ⊢
    rw [h0_negS]
    rcases ho.2 with ⟨hn, _⟩ | ⟨g, cap, cur, hn, hg, hh, _⟩
    · cases hn
    · obtain ⟨rfl, _, rfl⟩ := Value.slice.inj hn
      refine ⟨g, c, q2, c2, rfl, ?_, hb⟩
      have := World.ownsRow.cells ho (g := g) rfl 0 (.string ⟨#[112]⟩) rfl
      exact this
  go_wp2_with fail
  refine K7.out.mono ?_
  rintro e w7 ⟨gx, cx, qy, cy, rfl, hcx, hb7⟩
  have HX := show Hid (∀ w', Below w7.heap.size w7 w' → w'.cell? ⟨gx, 0, none⟩ = some (.string ⟨#[112]⟩)) from fun w' h => (Kp.of_below (S := fun _ => False) h).cell hcx (fun h => h)
  have H7 := show Hid (Below w.heap.size w w7 ∧ Below w2.heap.size w2 w7) from ⟨H6.out.1.trans (hb7.mono H6.out.1.size), H6.out.2.trans (hb7.mono H6.out.2.size)⟩
  clear K7 hb7 H6 hcx
  have K8 := show Hid (Calls Tryz.prog 25 #[.pointer (some ⟨B, 0, none⟩), .int .i64 0, .int .i64 5] w7 fun e w' => e = .returned (.tuple #[.int .i64 2, .int .i64 0, .int .i64 0]) ∧ Below w7.heap.size w7 w') from by
    have h := occurs_any w7 (HT.out w7 H7.out.2) 0 5
    rw [h0_occ] at h
    exact h
  go_wp2_with fail
  refine K8.out.mono ?_
  rintro e w8 ⟨rfl, hb8⟩
  have hcx := HX.out w8 hb8
  have H8 := show Hid (Below w.heap.size w w8 ∧ Below w2.heap.size w2 w8) from ⟨H7.out.1.trans (hb8.mono H7.out.1.size), H7.out.2.trans (hb8.mono H7.out.2.size)⟩
  have K9 := show Hid (Calls Tryz.prog 26 #[.pointer (some ⟨B, 0, none⟩), .int .i64 0, .int .i64 5] w8 fun e w' => e = .returned (.bool true) ∧ Below w8.heap.size w8 w') from by
    have h := within_any w8 (HT.out w8 H8.out.2) 0 5
    rw [h0_in] at h
    exact h
  clear K8 hb8 H7 HX
  go_wp2_with (go_at_call 13; refine (KN.out _ _).mono ?_; rintro e w' ⟨rfl, rfl⟩)
  refine K9.out.mono ?_
  rintro e w9 ⟨rfl, hb9⟩
  have H9 := show Hid (Below w.heap.size w w9) from H8.out.1.trans (hb9.mono H8.out.1.size)
  clear K9 hb9 H8 hcx
  have KL := show Hid (Calls Tryz.prog 29 #[.slice (some ⟨w9.heap.size, 0, none⟩) 3 3, .slice (some ⟨w9.heap.size + 1, 0, none⟩) 1 1] ((w9.alloc (Obj.cells #[.int .i64 3, .int .i64 3, .int .i64 1] 3)).alloc (Obj.cells #[.int .i64 4] 3)) fun e w' => e = .returned (.bool true) ∧ Below w9.heap.size w9 w') from by
    obtain ⟨h1, h2, hb⟩ := two_lists w9 (x := 4) (isL3 w9 3 3 1)
    have h := less_any _ _ _ _ _ h1 h2 (by decide) (by decide)
    rw [h0_less1] at h
    exact h.mono fun e w' ⟨he, hb'⟩ => ⟨he, hb.trans (hb'.mono hb.size)⟩
  go_wp2_with fail
  refine KL.out.mono ?_
  rintro e w10 ⟨rfl, hb10⟩
  have H10 := show Hid (Below w.heap.size w w10) from H9.out.trans (hb10.mono H9.out.size)
  clear KL hb10 H9
  have KL2 := show Hid (Calls Tryz.prog 29 #[.slice (some ⟨w10.heap.size, 0, none⟩) 2 2, .slice (some ⟨w10.heap.size + 1, 0, none⟩) 1 1] ((w10.alloc (Obj.cells #[.int .i64 4, .int .i64 1] 3)).alloc (Obj.cells #[.int .i64 4] 3)) fun e w' => e = .returned (.bool false) ∧ Below w10.heap.size w10 w') from by
    obtain ⟨h1, h2, hb⟩ := two_lists w10 (x := 4) (isL2 w10 4 1)
    have h := less_any _ _ _ _ _ h1 h2 (by decide) (by decide)
    rw [h0_less2] at h
    exact h.mono fun e w' ⟨he, hb'⟩ => ⟨he, hb.trans (hb'.mono hb.size)⟩
  go_wp2_with fail
  refine KL2.out.mono ?_
  rintro e w11 ⟨rfl, hb11⟩
  have H11 := show Hid (Below w.heap.size w w11) from H10.out.trans (hb11.mono H10.out.size)
  clear KL2 hb11 H10
  go_wp2_with fail
  go_ret
  exact ⟨rfl, H11.out⟩
end Go.Proofs.YthdcppkohalkmaaGreat

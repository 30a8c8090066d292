/-
  The calls of sequent at a table that no call made: each refuses. No condition.
-/
import Derived.Test.YtkmmlimekachbabGreatDoorQG6
import Derived.Test.YtkmmlimekachbabGreatDoorSPQ
import Derived.Test.YtkmmlimekachbabGreatDoorQParse
import Derived.Test.YtkmmlimekachbabGreatDoorQG3
import Derived.Test.YtkmmlimekachbabGreatDoorQHeads
namespace Go.Proofs.YtkmmlimekachbabGreatDoor
open Go.RowKit Go.Shelf Go.Maps
open Fm (Nd)
open Bt.Bs (Ok)
attribute [local go_sem] Oper.semAt_some

def Nob (w : World) (pv : Value) : Prop := ∀ w', Below w.heap.size w w' → Calls Tryz.prog 82 #[pv] w' fun e w'' => e = .returned (.bool false) ∧ w'' = w'
theorem Nob.later {w w1 : World} {pv : Value} (h : Nob w pv) (hb : Below w.heap.size w w1) : Nob w1 pv := fun w' hb' => h w' (hb.trans (hb'.mono hb.size))
theorem nob_nil (w : World) : Nob w (.pointer none) := fun w' _ => made_nil w'
theorem nob_zero (w : World) (b : Nat) (h : w.heap[b]? = some (.cells #[.slice none 0 0, .map none] 38 (0, 0))) : Nob w (.pointer (some ⟨b, 0, none⟩)) := fun w' hb => made_any w' b none (by rw [cell_of_row _ _ 1 _ _ _ ((hb.block b (lt_of_block h)).trans h)]; rfl)
set_option maxHeartbeats 400000 in
theorem below_none (w : World) {pv : Value} (h : Nob w pv) (x : Int) :
    Calls Tryz.prog 51 #[pv, .int .i64 x] w fun e w' => e = .returned (.tuple #[.slice none 0 0, .int .i64 1]) ∧ w' = w := by
  have K := show Hid (Calls Tryz.prog 82 #[pv] w fun e w'' => e = .returned (.bool false) ∧ w'' = w) from h w (Below.refl _ _)
  clear h
  go_enter Tryz.func51, Tryz.ntmps51
  go_wp2_with fail
  refine K.out.mono ?_
  rintro e w1 ⟨rfl, hw⟩
  subst w1
  go_wp2_with fail
  go_ret2
  exact ⟨rfl, rfl⟩
set_option maxHeartbeats 400000 in
theorem qmade_none (w : World) {q0 : Option Addr} (h : Nob w (.pointer q0)) : Calls Tryz.prog 28 #[.pointer q0] w fun e w' => e = .returned (.bool false) ∧ Below w.heap.size w w' := by
  have K := show Hid (Calls Tryz.prog 51 #[.pointer q0, .int .i64 (-1)] w fun e w' => e = .returned (.tuple #[.slice none 0 0, .int .i64 1]) ∧ w' = w) from below_none w h (-1)
  clear h
  go_enter Tryz.func28, Tryz.ntmps28
  go_wp2_with fail
  refine K.out.mono ?_
  rintro e w1 ⟨rfl, hw⟩
  subst w1
  go_wp2_with fail
  go_ret
  exact ⟨rfl, Below.refl _ _⟩
theorem refEnd0 {w W : World} {tmps : Array Value} {e : Int} (h6 : tmps[6]? = some (.pointer (some ⟨w.heap.size + 1, 0, none⟩))) (ha : Boxed W (w.heap.size + 1) 45 (.int .i64 e)) (hb : Below w.heap.size w W) :
    LeavesInM Fence.wide 5 Tryz.prog Tryz.f48 tmps (fun e' w' => e' = .returned (.int .i64 e) ∧ Below w.heap.size w w') [] .returning W := by
  have hc5 := ha.cell
  refine ⟨.int .i64 e, ?_, rfl, hb⟩
  simp [results, Tryz.f48, go_sem, hc5, h6]
set_option maxRecDepth 100000 in
set_option maxHeartbeats 2000000 in
theorem qrefused_none (w : World) {q0 : Option Addr} (h : Nob w (.pointer q0)) (fn : Fn) (fa lb : Array Value) (g : Int) :
    Calls Tryz.prog 48 #[.pointer q0, .func fn fa lb, .int .i64 g] w fun e w' => e = .returned (.int .i64 1) ∧ Below w.heap.size w w' := by
  have KM := show Hid (∀ w', Below w.heap.size w w' → Calls Tryz.prog 28 #[.pointer q0] w' fun e w'' => e = .returned (.bool false) ∧ Below w'.heap.size w' w'') from fun w' hb => qmade_none w' (h.later hb)
  clear h
  refine (callsIn_wide (n := 5)).1 ?_
  refine callsIn_of_wp_marks Tryz.func48 rfl trivial ?_ rfl
  simp only [Tryz.ntmps48, List.size_toArray, List.length_cons, List.length_nil, Nat.reduceAdd, Nat.reduceSub, Array.replicate_succ, Array.replicate_zero, List.push_toArray, List.append_toArray, List.nil_append, List.cons_append]
  have HR0 := show Hid (Boxed ((w.alloc (.cells #[.pointer q0] 33)).alloc (.cells #[.int .i64 0] 45)) w.heap.size 33 (.pointer q0) ∧ Boxed ((w.alloc (.cells #[.pointer q0] 33)).alloc (.cells #[.int .i64 0] 45)) (w.heap.size + 1) 45 (.int .i64 0) ∧ Below w.heap.size w ((w.alloc (.cells #[.pointer q0] 33)).alloc (.cells #[.int .i64 0] 45))) from ⟨(Bt.heap_two w _ _).1, (Bt.heap_two w _ _).2, Bt.below_two w _ _⟩
  have c0 := HR0.out.1.cell
  have K1 := show Hid _ from KM.out _ HR0.out.2.2
  gi_wp2_with (refine ⟨trivial, ?_⟩; gi_at_call 28; refine (callsIn_wide.2 K1.out).mono ?_; rintro e w2 ⟨rfl, hb2⟩; obtain ⟨HR2⟩ : Nonempty (Hid (Boxed w2 (w.heap.size + 1) 45 (.int .i64 0) ∧ Below w.heap.size w w2)) := ⟨box_later HR0.out.2.1 hb2 HR0.out.2.1.lt, HR0.out.2.2.trans (hb2.mono HR0.out.2.2.size)⟩; have c5 := HR2.out.1.cell; have f5 := HR2.out.1.frozen)
  exact refEnd0 rfl (HR2.out.1.set _) (HR2.out.2.setCell (by show w.heap.size ≤ w.heap.size + 1; omega) _)
set_option maxRecDepth 100000 in
set_option maxHeartbeats 2000000 in
theorem qcheck_of (w : World) {q0 : Option Addr} {r : List Nat} (hl : r.length = 16) (g rq : Int) (KR : Hid (∀ w' q, Below w.heap.size w w' → Bt.RowAt w' q r → Calls Tryz.prog 48 #[.pointer q0, .func (.func 65) #[] #[.pointer (some ⟨q, 0, none⟩)], .int .i64 g] w' fun e w'' => e = .returned (.int .i64 rq) ∧ Below w'.heap.size w' w'')) :
    Calls Tryz.prog 24 #[.pointer q0, .agg (cellsQ r g)] w fun e w' => e = .returned (.int .i64 rq) ∧ Below w.heap.size w w' := by
  have KA := show Hid (∀ w, Calls Tryz.prog 34 #[.agg (Bt.cellsB r)] w fun e w' => e = .returned (.func (.func 65) #[] #[.pointer (some ⟨w.heap.size, 0, none⟩)]) ∧ w' = w.alloc (.cells (Bt.cellsB r) 24)) from fun w => Bt.all_any w r
  have HC := show Hid (CK w (w.alloc (.cells (cellsQ r g) 26)) r g) from ⟨seq_new w r g, below_alloc w _⟩
  go_enter Tryz.func24, Tryz.ntmps24
  go_wp2_with fail
  refine wp_region_held_drew (S := fun wx => CK w wx r g) (by kernel_rfl) ⟨HC.out.seq, HC.out.bel.drew⟩ (fun hH => ?_)
  clear HC
  refine takeV 0 (some 5) (.pointer q0) rfl rfl (by kernel_rfl) (by kernel_rfl) (by kernel_rfl) (fun _ _ _ h => h) rfl (fun wx hx => by go_simp) hH ?_
  simp only [Act.put, List.setIfInBounds_toArray, List.set_cons_zero, List.set_cons_succ]
  refine takeV 1 (some 6) (.pointer (some ⟨w.heap.size, 0, none⟩)) rfl rfl (by kernel_rfl) (by kernel_rfl) (by kernel_rfl) (fun _ _ _ h => h) rfl (fun wx hx => by go_simp) hH ?_
  simp only [Act.put, List.setIfInBounds_toArray, List.set_cons_zero, List.set_cons_succ]
  refine takeQ (v := .agg (Bt.cellsB r)) 2 (some 7) rfl rfl (by kernel_rfl) (by kernel_rfl) (by kernel_rfl) (fun _ _ _ h => h) rfl _ rfl (w.heap.size) rfl r rfl hl (fun wx hx => ⟨_, hx.seq⟩) hH ?_
  simp only [Act.put, List.setIfInBounds_toArray, List.set_cons_zero, List.set_cons_succ]
  refine takeV 4 (some 9) (.pointer (some ⟨w.heap.size, 16, none⟩)) rfl rfl (by kernel_rfl) (by kernel_rfl) (by kernel_rfl) (fun _ _ _ h => h) rfl (fun wx hx => by go_simp) hH ?_
  simp only [Act.put, List.setIfInBounds_toArray, List.set_cons_zero, List.set_cons_succ]
  refine takeV 5 (some 10) (.int .i64 g) rfl rfl (by kernel_rfl) (by kernel_rfl) (by kernel_rfl) (fun _ _ _ h => h) rfl (fun wx hx => by have hcc := hx.seq.goal hl; go_simp) hH ?_
  simp only [Act.put, List.setIfInBounds_toArray, List.set_cons_zero, List.set_cons_succ]
  refine oneH 3 (by kernel_rfl) rfl (stepC 3 (some 8) rfl rfl 34 _ _ rfl [.agg (Bt.cellsB r)] rfl (fun _ _ => Tryz.call34 _ _) ?_)
  refine (KA.out _).mono ?_
  rintro e w1 ⟨rfl, hw1⟩
  have hq : Bt.RowAt w1 (w.alloc (Obj.cells (cellsQ r g) 26)).drew.heap.size r := by rw [hw1]; exact heap_alloc_last _ _
  have hH1 : CK w w1 r g := by rw [hw1]; exact ⟨hH.seq.later (below_alloc _ _) hH.seq.lt, hH.bel.alloc hH.bel.size _⟩
  clear hw1
  refine ⟨_, rfl, hH1, fun _ => ?_⟩
  simp only [Act.put, List.setIfInBounds_toArray, List.set_cons_zero, List.set_cons_succ]
  refine oneH 6 (by kernel_rfl) rfl (stepC 6 (some 11) rfl rfl 48 _ _ rfl [.pointer q0, .func (.func 65) #[] #[.pointer (some ⟨_, 0, none⟩)], .int .i64 g] rfl (fun _ _ => Tryz.call48 _ _) ?_)
  refine (KR.out w1 _ hH1.bel hq).mono ?_
  rintro e w2 ⟨rfl, hb2⟩
  have hH2 : CK w w2 r g := ⟨hH1.seq.later hb2 hH1.seq.lt, hH1.bel.trans (hb2.mono hH1.bel.size)⟩
  refine ⟨_, rfl, hH2, fun _ => ?_⟩
  simp only [Act.put, List.setIfInBounds_toArray, List.set_cons_zero, List.set_cons_succ]
  refine takeV 7 (some 4) (.int .i64 rq) rfl rfl (by kernel_rfl) (by kernel_rfl) (by kernel_rfl) (fun _ _ _ h => h) rfl (fun wx hx => by go_simp) hH2 ?_
  simp only [Act.put, List.setIfInBounds_toArray, List.set_cons_zero, List.set_cons_succ]
  refine wpAnyH_done (by kernel_rfl) ?_ _
  have HB := show Hid (Below w.heap.size w w2) from hH2.bel
  clear hH hH1 hH2 hb2 hq KR KA
  go_wp2_with fail
  go_ret
  exact ⟨rfl, HB.out⟩
theorem qcheck_none (w : World) {q0 : Option Addr} (h : Nob w (.pointer q0)) {r : List Nat} (hl : r.length = 16) (g : Int) : Calls Tryz.prog 24 #[.pointer q0, .agg (cellsQ r g)] w fun e w' => e = .returned (.int .i64 1) ∧ Below w.heap.size w w' :=
  qcheck_of w hl g 1 (show Hid _ from fun w' _ hb _ => qrefused_none w' (h.later hb) _ _ _ g)
structure W4n (w W : World) (pv : Value) (r : List Nat) (g : Int) : Prop where
  bel : Below w.heap.size w W
  seq : SeqAt W (w.heap.size + 1) r g
  ri_ : Boxed W (w.heap.size + 1 + 1) 3 (.int .i64 0)
  re_ : Boxed W (w.heap.size + 1 + 1 + 1) 45 (.int .i64 0)
theorem W4n.later {w W W' : World} {pv : Value} {r : List Nat} {g : Int} (h : W4n w W pv r g) (hb : Below W.heap.size W W') : W4n w W' pv r g :=
  ⟨h.bel.trans (hb.mono h.bel.size), h.seq.later hb h.seq.lt, box_later h.ri_ hb h.ri_.lt, box_later h.re_ hb h.re_.lt⟩
theorem w4n_new (w : World) (pv : Value) (r : List Nat) (g : Int) : W4n w ((((w.alloc (.cells #[pv] 33)).alloc (.cells (cellsQ r g) 26)).alloc (.cells #[.int .i64 0] 3)).alloc (.cells #[.int .i64 0] 45)) pv r g := by
  refine ⟨((((Below.refl _ _).alloc (Nat.le_refl _) _).alloc (by simp) _).alloc (by simp; omega) _).alloc (by simp; omega) _, ?_, ?_, ?_⟩
  · exact (Below.heap_alloc _ _ _ (by first | (simp; done) | (simp; omega))).trans ((Below.heap_alloc _ _ _ (by simp)).trans (heap_new_at _ _ _ (by simp)))
  · exact (Below.heap_alloc _ _ _ (by simp)).trans (heap_new_at _ _ _ (by simp))
  · exact heap_new_at _ _ _ (by simp)
set_option maxRecDepth 100000 in
set_option maxHeartbeats 1000000 in
theorem qwhole_none (w : World) {q0 : Option Addr} (h : Nob w (.pointer q0)) {r : List Nat} (hl16 : r.length = 16) (g : Int) :
    Calls Tryz.prog 20 #[.pointer q0, .agg (cellsQ r g)] w fun e w' => e = .returned (.tuple #[.int .i64 0, .int .i64 1]) ∧ Below w.heap.size w w' := by
  have KC := show Hid (∀ w', Below w.heap.size w w' → Calls Tryz.prog 24 #[.pointer q0, .agg (cellsQ r g)] w' fun e w'' => e = .returned (.int .i64 1) ∧ Below w'.heap.size w' w'') from fun w' hb => qcheck_none w' (h.later hb) hl16 g
  clear h
  refine (callsIn_wide (n := 5)).1 ?_
  refine callsIn_of_wp_marks Tryz.func20 rfl trivial ?_ rfl
  simp only [Tryz.ntmps20, List.size_toArray, List.length_cons, List.length_nil, Nat.reduceAdd, Nat.reduceSub, Array.replicate_succ, Array.replicate_zero, List.push_toArray, List.append_toArray, List.nil_append, List.cons_append]
  have h0 := w4n_new w (.pointer q0) r g
  have HP1 := show Hid _ from h0.seq
  obtain ⟨w0, hw0⟩ : ∃ w0, w0 = (((w.alloc (.cells #[.pointer q0] 33)).alloc (.cells (cellsQ r g) 26)).alloc (.cells #[.int .i64 0] 3)).alloc (.cells #[.int .i64 0] 45) := ⟨_, rfl⟩
  rw [← hw0] at h0
  have H0 := show Hid (W4n w w0 (.pointer q0) r g) from h0
  clear h0
  gi_wp2_with (first | (refine ldQIn _ _ rfl _ rfl HP1.out hl16 rfl ?_))
  refine ⟨trivial, ?_⟩
  rw [← hw0]
  clear hw0 HP1
  refine (callsIn_wide.2 (KC.out w0 H0.out.bel)).mono ?_
  rintro e w1 ⟨rfl, hb1⟩
  have H1 := show Hid (W4n w w1 (.pointer q0) r g) from H0.out.later hb1
  clear hb1 H0 KC
  have c4 := H1.out.ri_.cell
  have f4 := H1.out.ri_.frozen
  have c5 := H1.out.re_.cell
  have f5 := H1.out.re_.frozen
  gi_wp2
  refine whEnd0 rfl rfl ((H1.out.ri_.set _).other (by omega) _) ((H1.out.re_.other (by omega) _).set _) ⟨rfl, ?_⟩
  exact (H1.out.bel.setCell (by show w.heap.size ≤ w.heap.size + 1 + 1; omega) _).setCell (by show w.heap.size ≤ w.heap.size + 1 + 1 + 1; omega) _
set_option maxRecDepth 100000 in
set_option maxHeartbeats 1000000 in
theorem qcurry_none (w : World) {q0 : Option Addr} (h : Nob w (.pointer q0)) {r : List Nat} (hl16 : r.length = 16) (g : Int) :
    Calls Tryz.prog 21 #[.pointer q0, .agg (cellsQ r g)] w fun e w' => e = .returned (.tuple #[.int .i64 0, .int .i64 1]) ∧ Below w.heap.size w w' := by
  have KC := show Hid (∀ w', Below w.heap.size w w' → Calls Tryz.prog 24 #[.pointer q0, .agg (cellsQ r g)] w' fun e w'' => e = .returned (.int .i64 1) ∧ Below w'.heap.size w' w'') from fun w' hb => qcheck_none w' (h.later hb) hl16 g
  clear h
  refine (callsIn_wide (n := 5)).1 ?_
  refine callsIn_of_wp_marks Tryz.func21 rfl trivial ?_ rfl
  simp only [Tryz.ntmps21, List.size_toArray, List.length_cons, List.length_nil, Nat.reduceAdd, Nat.reduceSub, Array.replicate_succ, Array.replicate_zero, List.push_toArray, List.append_toArray, List.nil_append, List.cons_append]
  have h0 := w4n_new w (.pointer q0) r g
  have HP1 := show Hid _ from h0.seq
  obtain ⟨w0, hw0⟩ : ∃ w0, w0 = (((w.alloc (.cells #[.pointer q0] 33)).alloc (.cells (cellsQ r g) 26)).alloc (.cells #[.int .i64 0] 3)).alloc (.cells #[.int .i64 0] 45) := ⟨_, rfl⟩
  rw [← hw0] at h0
  have H0 := show Hid (W4n w w0 (.pointer q0) r g) from h0
  clear h0
  gi_wp2_with (first | (refine ldQIn _ _ rfl _ rfl HP1.out hl16 rfl ?_))
  refine ⟨trivial, ?_⟩
  rw [← hw0]
  clear hw0 HP1
  refine (callsIn_wide.2 (KC.out w0 H0.out.bel)).mono ?_
  rintro e w1 ⟨rfl, hb1⟩
  have H1 := show Hid (W4n w w1 (.pointer q0) r g) from H0.out.later hb1
  clear hb1 H0 KC
  have c4 := H1.out.ri_.cell
  have f4 := H1.out.ri_.frozen
  have c5 := H1.out.re_.cell
  have f5 := H1.out.re_.frozen
  gi_wp2
  refine cuEnd0 rfl rfl ((H1.out.ri_.set _).other (by omega) _) ((H1.out.re_.other (by omega) _).set _) ⟨rfl, ?_⟩
  exact (H1.out.bel.setCell (by show w.heap.size ≤ w.heap.size + 1 + 1; omega) _).setCell (by show w.heap.size ≤ w.heap.size + 1 + 1 + 1; omega) _
set_option maxRecDepth 100000 in
set_option maxHeartbeats 1000000 in
theorem qprint_none (w : World) {q0 : Option Addr} (h : Nob w (.pointer q0)) {r : List Nat} (hl16 : r.length = 16) (g : Int) :
    Calls Tryz.prog 19 #[.pointer q0, .agg (cellsQ r g)] w fun e w' => e = .returned (.tuple #[.string ⟨#[]⟩, .int .i64 1]) ∧ Below w.heap.size w w' := by
  have KC := show Hid (∀ w', Below w.heap.size w w' → Calls Tryz.prog 24 #[.pointer q0, .agg (cellsQ r g)] w' fun e w'' => e = .returned (.int .i64 1) ∧ Below w'.heap.size w' w'') from fun w' hb => qcheck_none w' (h.later hb) hl16 g
  clear h
  refine (callsIn_wide (n := 5)).1 ?_
  refine callsIn_of_wp_marks Tryz.func19 rfl trivial ?_ rfl
  simp only [Tryz.ntmps19, List.size_toArray, List.length_cons, List.length_nil, Nat.reduceAdd, Nat.reduceSub, Array.replicate_succ, Array.replicate_zero, List.push_toArray, List.append_toArray, List.nil_append, List.cons_append]
  obtain ⟨w0, hw0⟩ : ∃ w0, w0 = (((w.alloc (.cells #[.pointer q0] 33)).alloc (.cells (cellsQ r g) 26)).alloc (.cells #[.string ⟨#[]⟩] 9)).alloc (.cells #[.int .i64 0] 45) := ⟨_, rfl⟩
  have hb0 : Below w.heap.size w w0 := by rw [hw0]; exact ((((Below.refl _ _).alloc (Nat.le_refl _) _).alloc (by simp) _).alloc (by simp; omega) _).alloc (by simp; omega) _
  have p1 : SeqAt w0 (w.heap.size + 1) r g := by rw [hw0]; exact (Below.heap_alloc _ _ _ (by first | (simp; done) | (simp; omega))).trans ((Below.heap_alloc _ _ _ (by simp)).trans (heap_new_at _ _ _ (by simp)))
  have p2 : Boxed w0 (w.heap.size + 1 + 1) 9 (.string ⟨#[]⟩) := by rw [hw0]; exact (Below.heap_alloc _ _ _ (by simp)).trans (heap_new_at _ _ _ (by simp))
  have p3 : Boxed w0 (w.heap.size + 1 + 1 + 1) 45 (.int .i64 0) := by rw [hw0]; exact heap_new_at _ _ _ (by simp)
  have H0 := show Hid (Below w.heap.size w w0 ∧ Boxed w0 (w.heap.size + 1 + 1) 9 (.string ⟨#[]⟩) ∧ Boxed w0 (w.heap.size + 1 + 1 + 1) 45 (.int .i64 0)) from ⟨hb0, p2, p3⟩
  have p1' : SeqAt ((((w.alloc (.cells #[.pointer q0] 33)).alloc (.cells (cellsQ r g) 26)).alloc (.cells #[.string ⟨#[]⟩] 9)).alloc (.cells #[.int .i64 0] 45)) (w.heap.size + 1) r g := by rw [← hw0]; exact p1
  have HP1 := show Hid _ from p1'
  clear hb0 p1 p2 p3 p1'
  gi_wp2_with (first | (refine ldQIn _ _ rfl _ rfl HP1.out hl16 rfl ?_))
  refine ⟨trivial, ?_⟩
  rw [← hw0]
  clear hw0 HP1
  refine (callsIn_wide.2 (KC.out w0 H0.out.1)).mono ?_
  rintro e w1 ⟨rfl, hb1⟩
  have H1 := show Hid (Below w.heap.size w w1 ∧ Boxed w1 (w.heap.size + 1 + 1) 9 (.string ⟨#[]⟩) ∧ Boxed w1 (w.heap.size + 1 + 1 + 1) 45 (.int .i64 0)) from ⟨H0.out.1.trans (hb1.mono H0.out.1.size), box_later H0.out.2.1 hb1 H0.out.2.1.lt, box_later H0.out.2.2 hb1 H0.out.2.2.lt⟩
  clear hb1 H0 KC
  have c4 := H1.out.2.1.cell
  have f4 := H1.out.2.1.frozen
  have c5 := H1.out.2.2.cell
  have f5 := H1.out.2.2.frozen
  gi_wp2
  exact prEnd0 rfl rfl ((H1.out.2.1.set (.string ⟨#[]⟩)).other (by omega) _) ((H1.out.2.2.other (by omega) _).set _) ((H1.out.1.setCell (by show w.heap.size ≤ w.heap.size + 1 + 1; omega) _).setCell (by show w.heap.size ≤ w.heap.size + 1 + 1 + 1; omega) _)
set_option maxRecDepth 100000 in
set_option maxHeartbeats 1000000 in
theorem qof_none (w : World) {q0 : Option Addr} (h : Nob w (.pointer q0)) (p : Option Addr) (n c : Nat) (g : Int) :
    Calls Tryz.prog 25 #[.pointer q0, .slice p n c, .int .i64 g] w fun e w' => e = .returned (.tuple #[.agg (cellsQ Bt.Bs.zero 0), .int .i64 1]) ∧ Below w.heap.size w w' := by
  have KV := show Hid (∀ w, Calls Tryz.prog 49 #[.slice p n c] w fun e w' => e = .returned (.func (.func 81) #[] #[.pointer (some ⟨w.heap.size, 0, none⟩)]) ∧ w' = w.alloc (.cells #[.slice p n c] 32)) from fun w => values_any w p n c
  have KR := show Hid (∀ w' q, Below w.heap.size w w' → Calls Tryz.prog 48 #[.pointer q0, .func (.func 81) #[] #[.pointer (some ⟨q, 0, none⟩)], .int .i64 g] w' fun e w'' => e = .returned (.int .i64 1) ∧ Below w'.heap.size w' w'') from fun w' q hb => qrefused_none w' (h.later hb) _ _ _ g
  clear h
  go_enter Tryz.func25, Tryz.ntmps25
  go_wp2_with fail
  have HS0 := show Hid (SeqAt (w.alloc (.cells (cellsQ Bt.Bs.zero 0) 26)) w.heap.size Bt.Bs.zero 0 ∧ Below w.heap.size w (w.alloc (.cells (cellsQ Bt.Bs.zero 0) 26))) from ⟨seq_new w _ _, below_alloc w _⟩
  change Calls _ _ _ (w.alloc (.cells (cellsQ Bt.Bs.zero 0) 26)) _
  generalize w.alloc (.cells (cellsQ Bt.Bs.zero 0) 26) = w0 at *
  refine (KV.out _).mono ?_
  rintro e w1 ⟨rfl, hw1⟩
  have H1 := show Hid (SeqAt w1 w.heap.size Bt.Bs.zero 0 ∧ Below w.heap.size w w1) from by
    rw [hw1]
    exact ⟨HS0.out.1.later (below_alloc _ _) HS0.out.1.lt, HS0.out.2.alloc HS0.out.2.size _⟩
  clear hw1 HS0 KV
  go_wp2_with fail
  refine (KR.out w1 _ H1.out.2).mono ?_
  rintro e w2 ⟨rfl, hb2⟩
  have H2 := show Hid (SeqAt w2 w.heap.size Bt.Bs.zero 0 ∧ Below w.heap.size w w2) from ⟨H1.out.1.later hb2 H1.out.1.lt, H1.out.2.trans (hb2.mono H1.out.2.size)⟩
  clear hb2 H1 KR
  go_wp2_with (refine wpList_stQ _ rfl rfl _ _ rfl _ rfl (r' := Bt.Bs.zero) (g' := 0) rfl H2.out.1 zero_len zero_len ?_)
  refine bodyPost_ret (results_seq_tmp rfl _ _ w.heap.size rfl (H2.out.1.setRow _ _) zero_len) rfl ?_
  exact ⟨rfl, below_setRow H2.out.2 (Nat.le_refl _)⟩
set_option maxRecDepth 100000 in
set_option maxHeartbeats 4000000 in
theorem qweights_of (w : World) (hZ : Bt.Tz w) {q0 : Option Addr} {r : List Nat} (hr : Ok r) (g : Int) (rl : List Int) (re : Int) (KW : Hid (∀ w' iv, Below w.heap.size w w' → IsL w' iv (idsQ r g) → Calls Tryz.prog 47 #[.pointer q0, iv] w' fun e w'' => ∃ p c, e = .returned (.tuple #[.slice p rl.length c, .int .i64 re]) ∧ IsL w'' (.slice p rl.length c) rl ∧ Below w'.heap.size w' w'')) :
    Calls Tryz.prog 22 #[.pointer q0, .agg (cellsQ r g)] w fun e w' => ∃ p c, e = .returned (.tuple #[.slice p rl.length c, .int .i64 re]) ∧ IsL w' (.slice p rl.length c) rl ∧ Below w.heap.size w w' := by
  obtain ⟨i0, hi, hz0, hz1, hz2⟩ := info_parts Bt.infoI
  have hl := hr.1
  have hnl : (Bt.Bs.nums r).length ≤ 1024 := Bt.Bs.nums_len_le r
  have KL := show Hid (∀ w', Below w.heap.size w w' → Calls Tryz.prog 46 #[.agg (Bt.cellsB r)] w' fun e w'' => ∃ v, e = .returned v ∧ w''.ownsRow w'.heap.size 3 1 v (Bt.Bs.nums r).length (((Bt.Bs.nums r).map fun n : Nat => (n : Int)).map (Value.int .i64)) ∧ Below w'.heap.size w' w'') from fun w' hb => (Bt.list_any w' (Bt.tz_block hZ hb) hr).mono fun e w'' ⟨v, he, ho, hb⟩ => ⟨v, he, by rw [List.map_map]; exact ho, hb⟩
  have HC := show Hid (CK w (w.alloc (.cells (cellsQ r g) 26)) r g) from ⟨seq_new w r g, below_alloc w _⟩
  have HID := show Hid (((Bt.Bs.nums r).map fun n : Nat => (n : Int)).map (Value.int .i64) ++ [.int .i64 g] = (idsQ r g).map (Value.int .i64) ∧ (idsQ r g).length = (Bt.Bs.nums r).length + 1) from ⟨by unfold idsQ; simp, by unfold idsQ; simp⟩
  generalize idsQ r g = ids at *
  generalize ((Bt.Bs.nums r).map fun n : Nat => (n : Int)).map (Value.int .i64) = ns at *
  generalize (Bt.Bs.nums r).length = nl at *
  go_enter Tryz.func22, Tryz.ntmps22
  go_wp2_with fail
  refine wp_region_held_drew (S := fun wx => CK w wx r g) (by kernel_rfl) ⟨HC.out.seq, HC.out.bel.drew⟩ (fun hH => ?_)
  clear HC
  refine takeV 0 (some 6) (.pointer q0) rfl rfl (by kernel_rfl) (by kernel_rfl) (by kernel_rfl) (fun _ _ _ h => h) rfl (fun wx hx => by go_simp) hH ?_
  simp only [Act.put, List.setIfInBounds_toArray, List.set_cons_zero, List.set_cons_succ]
  refine takeV 1 (some 7) (.pointer (some ⟨w.heap.size, 0, none⟩)) rfl rfl (by kernel_rfl) (by kernel_rfl) (by kernel_rfl) (fun _ _ _ h => h) rfl (fun wx hx => by go_simp) hH ?_
  simp only [Act.put, List.setIfInBounds_toArray, List.set_cons_zero, List.set_cons_succ]
  refine takeQ (v := .agg (Bt.cellsB r)) 2 (some 8) rfl rfl (by kernel_rfl) (by kernel_rfl) (by kernel_rfl) (fun _ _ _ h => h) rfl _ rfl (w.heap.size) rfl r rfl hl (fun wx hx => ⟨_, hx.seq⟩) hH ?_
  simp only [Act.put, List.setIfInBounds_toArray, List.set_cons_zero, List.set_cons_succ]
  refine takeV 4 (some 10) (.pointer (some ⟨w.heap.size, 16, none⟩)) rfl rfl (by kernel_rfl) (by kernel_rfl) (by kernel_rfl) (fun _ _ _ h => h) rfl (fun wx hx => by go_simp) hH ?_
  simp only [Act.put, List.setIfInBounds_toArray, List.set_cons_zero, List.set_cons_succ]
  refine takeV 5 (some 11) (.int .i64 g) rfl rfl (by kernel_rfl) (by kernel_rfl) (by kernel_rfl) (fun _ _ _ h => h) rfl (fun wx hx => by have hcc := hx.seq.goal hl; go_simp) hH ?_
  simp only [Act.put, List.setIfInBounds_toArray, List.set_cons_zero, List.set_cons_succ]
  generalize hw0 : (w.alloc (.cells (cellsQ r g) 26)).drew = w0 at *
  have hs0 : w.heap.size < w0.heap.size := hH.seq.lt
  refine twoH 3 6 (by kernel_rfl) rfl rfl ?_ ?_
  · refine stepC 3 (some 9) rfl rfl 46 _ _ rfl [.agg (Bt.cellsB r)] rfl (fun _ _ => Tryz.call46 _ _) ?_
    refine (KL.out w0 hH.bel).mono ?_
    rintro e w1 ⟨lv, rfl, ho1, hb1⟩
    have hH1 : CK w w1 r g := hH.later hb1
    refine ⟨_, rfl, hH1, fun _ => ?_⟩
    simp only [Act.put, List.setIfInBounds_toArray, List.set_cons_zero, List.set_cons_succ]
    have HOW := show Hid ((w1.alloc (.cells #[.int .i64 g] 3)).ownsRow w0.heap.size 3 1 lv nl ns) from ho1.alloc _
    have hH2 : CK w (w1.alloc (.cells #[.int .i64 g] 3)) r g := hH1.later (below_alloc _ _)
    have HSZ := show Hid (w0.heap.size ≤ (w1.alloc (.cells #[.int .i64 g] 3)).heap.size) from (by have := hb1.size; rw [World.size_alloc]; omega : w0.heap.size ≤ (w1.alloc (.cells #[.int .i64 g] 3)).heap.size)
    refine oneH 6 (by kernel_rfl) rfl (stepW 6 (some 12) (.slice (some ⟨w1.heap.size, 0, none⟩) 1 1) (w1.alloc (.cells #[.int .i64 g] 3)) rfl rfl (by go_simp) hH2 (fun _ => ?_))
    simp only [Act.put, List.setIfInBounds_toArray, List.set_cons_zero, List.set_cons_succ]
    have HSB := show Hid _ from cell_one_new w1 (.int .i64 g) 3
    generalize w1.heap.size = sb at *
    generalize w1.alloc (.cells #[.int .i64 g] 3) = w2 at *
    clear ho1 hb1 hH1
    refine oneH 7 (by kernel_rfl) rfl (stepApp 7 (some 13) rfl rfl (.tmp 9) (.tmp 12) 32 rfl w0.heap.size 3 i0 _ 1 8 Tryz.underlying32 hi hz0 hz1 hz2 rfl (by decide) lv nl ns rfl HOW.out ⟨sb, 0, none⟩ 1 1 [.int .i64 g] rfl rfl HSB.out (by intro u hu; simp at hu; subst hu; rfl) (by unfold maxLen; omega) (by omega) HSZ.out (fun v3 w3 ho3 hg3 => ?_))
    have hH3 : CK w w3 r g := ⟨(hg3.block _ hH2.seq.lt (fun e => by have := (HOW.out.lt _ e.symm).1; omega)).trans hH2.seq, hH2.bel.grown hg3 hH2.bel.size (fun k e => by have := (HOW.out.lt k e).1; omega)⟩
    refine ⟨hH3, ?_⟩
    simp only [Act.put, List.setIfInBounds_toArray, List.set_cons_zero, List.set_cons_succ]
    rw [HID.out.1] at ho3
    have hI3 : IsL w3 v3 ids := isL_own ho3 (by omega)
    refine oneH 8 (by kernel_rfl) rfl (stepC 8 (some 14) rfl rfl 47 _ _ rfl [.pointer q0, v3] rfl (fun _ _ => Tryz.call47 _ _) ?_)
    refine (KW.out w3 v3 hH3.bel hI3).mono ?_
    rintro e w4 ⟨p4, c4, rfl, hr4, hb4⟩
    have hH4 : CK w w4 r g := hH3.later hb4
    refine ⟨_, rfl, hH4, fun _ => ?_⟩
    simp only [Act.put, List.setIfInBounds_toArray, List.set_cons_zero, List.set_cons_succ]
    refine takeV 9 (some 15) (.slice p4 rl.length c4) rfl rfl (by kernel_rfl) (by kernel_rfl) (by kernel_rfl) (fun _ _ _ h => h) rfl (fun wx hx => by go_simp) hH4 ?_
    simp only [Act.put, List.setIfInBounds_toArray, List.set_cons_zero, List.set_cons_succ]
    refine takeV 10 (some 16) (.int .i64 re) rfl rfl (by kernel_rfl) (by kernel_rfl) (by kernel_rfl) (fun _ _ _ h => h) rfl (fun wx hx => by go_simp) hH4 ?_
    simp only [Act.put, List.setIfInBounds_toArray, List.set_cons_zero, List.set_cons_succ]
    refine takeV 11 (some 4) (.slice p4 rl.length c4) rfl rfl (by kernel_rfl) (by kernel_rfl) (by kernel_rfl) (fun _ _ _ h => h) rfl (fun wx hx => by go_simp) hH4 ?_
    simp only [Act.put, List.setIfInBounds_toArray, List.set_cons_zero, List.set_cons_succ]
    refine takeV 12 (some 5) (.int .i64 re) rfl rfl (by kernel_rfl) (by kernel_rfl) (by kernel_rfl) (fun _ _ _ h => h) rfl (fun wx hx => by go_simp) hH4 ?_
    simp only [Act.put, List.setIfInBounds_toArray, List.set_cons_zero, List.set_cons_succ]
    refine wpAnyH_done (by kernel_rfl) ?_ _
    have HE := show Hid (IsL w4 (.slice p4 rl.length c4) rl ∧ Below w.heap.size w w4) from ⟨hr4, hH4.bel⟩
    clear hH hH2 hH3 hH4 hr4 hb4 hI3 ho3 hg3 KW KL HID HOW HSB HSZ
    go_wp2_with fail
    go_ret2
    exact ⟨p4, c4, rfl, HE.out⟩
  · have hH1 : CK w (w0.alloc (.cells #[.int .i64 g] 3)) r g := hH.later (below_alloc _ _)
    refine stepW 6 (some 12) (.slice (some ⟨w0.heap.size, 0, none⟩) 1 1) (w0.alloc (.cells #[.int .i64 g] 3)) rfl rfl (by go_simp) hH1 (fun _ => ?_)
    simp only [Act.put, List.setIfInBounds_toArray, List.set_cons_zero, List.set_cons_succ]
    refine oneH 3 (by kernel_rfl) rfl (stepC 3 (some 9) rfl rfl 46 _ _ rfl [.agg (Bt.cellsB r)] rfl (fun _ _ => Tryz.call46 _ _) ?_)
    refine (KL.out _ hH1.bel).mono ?_
    rintro e w2 ⟨lv, rfl, ho1, hb1⟩
    have hH2 : CK w w2 r g := hH1.later hb1
    refine ⟨_, rfl, hH2, fun _ => ?_⟩
    simp only [Act.put, List.setIfInBounds_toArray, List.set_cons_zero, List.set_cons_succ]
    have hsz1 : (w0.alloc (.cells #[.int .i64 g] 3)).heap.size = w0.heap.size + 1 := by simp
    have HOW := show Hid (w2.ownsRow w0.heap.size 3 1 lv nl ns) from ⟨ho1.1, ho1.2.imp (fun h => h) fun ⟨g, cap, cur, e1, hg, r⟩ => ⟨g, cap, cur, e1, by omega, r⟩⟩
    have HSZ := show Hid (w0.heap.size ≤ w2.heap.size) from (by have := hb1.size; omega : w0.heap.size ≤ w2.heap.size)
    have HSB := show Hid (∀ j u, [Value.int .i64 g][j]? = some u → w2.cell? ((⟨w0.heap.size, 0, none⟩ : Addr).add j) = some u) from fun j u hj => by
      have h := cell_one_new w0 (.int .i64 g) 3 j u hj
      have h0 : ((⟨w0.heap.size, 0, none⟩ : Addr).add j).block = w0.heap.size := by rw [Addr.add_mid]
      exact (hb1.cell (by rw [hsz1, h0]; omega)).trans h
    generalize w0.heap.size = sb at *
    clear ho1 hb1 hH1
    refine oneH 7 (by kernel_rfl) rfl (stepApp 7 (some 13) rfl rfl (.tmp 9) (.tmp 12) 32 rfl sb 3 i0 _ 1 8 Tryz.underlying32 hi hz0 hz1 hz2 rfl (by decide) lv nl ns rfl HOW.out ⟨sb, 0, none⟩ 1 1 [.int .i64 g] rfl rfl HSB.out (by intro u hu; simp at hu; subst hu; rfl) (by unfold maxLen; omega) (by omega) HSZ.out (fun v3 w3 ho3 hg3 => ?_))
    have hH3 : CK w w3 r g := ⟨(hg3.block _ hH2.seq.lt (fun e => by have := (HOW.out.lt _ e.symm).1; omega)).trans hH2.seq, hH2.bel.grown hg3 hH2.bel.size (fun k e => by have := (HOW.out.lt k e).1; omega)⟩
    refine ⟨hH3, ?_⟩
    simp only [Act.put, List.setIfInBounds_toArray, List.set_cons_zero, List.set_cons_succ]
    rw [HID.out.1] at ho3
    have hI3 : IsL w3 v3 ids := isL_own ho3 (by omega)
    refine oneH 8 (by kernel_rfl) rfl (stepC 8 (some 14) rfl rfl 47 _ _ rfl [.pointer q0, v3] rfl (fun _ _ => Tryz.call47 _ _) ?_)
    refine (KW.out w3 v3 hH3.bel hI3).mono ?_
    rintro e w4 ⟨p4, c4, rfl, hr4, hb4⟩
    have hH4 : CK w w4 r g := hH3.later hb4
    refine ⟨_, rfl, hH4, fun _ => ?_⟩
    simp only [Act.put, List.setIfInBounds_toArray, List.set_cons_zero, List.set_cons_succ]
    refine takeV 9 (some 15) (.slice p4 rl.length c4) rfl rfl (by kernel_rfl) (by kernel_rfl) (by kernel_rfl) (fun _ _ _ h => h) rfl (fun wx hx => by go_simp) hH4 ?_
    simp only [Act.put, List.setIfInBounds_toArray, List.set_cons_zero, List.set_cons_succ]
    refine takeV 10 (some 16) (.int .i64 re) rfl rfl (by kernel_rfl) (by kernel_rfl) (by kernel_rfl) (fun _ _ _ h => h) rfl (fun wx hx => by go_simp) hH4 ?_
    simp only [Act.put, List.setIfInBounds_toArray, List.set_cons_zero, List.set_cons_succ]
    refine takeV 11 (some 4) (.slice p4 rl.length c4) rfl rfl (by kernel_rfl) (by kernel_rfl) (by kernel_rfl) (fun _ _ _ h => h) rfl (fun wx hx => by go_simp) hH4 ?_
    simp only [Act.put, List.setIfInBounds_toArray, List.set_cons_zero, List.set_cons_succ]
    refine takeV 12 (some 5) (.int .i64 re) rfl rfl (by kernel_rfl) (by kernel_rfl) (by kernel_rfl) (fun _ _ _ h => h) rfl (fun wx hx => by go_simp) hH4 ?_
    simp only [Act.put, List.setIfInBounds_toArray, List.set_cons_zero, List.set_cons_succ]
    refine wpAnyH_done (by kernel_rfl) ?_ _
    have HE := show Hid (IsL w4 (.slice p4 rl.length c4) rl ∧ Below w.heap.size w w4) from ⟨hr4, hH4.bel⟩
    clear hH hH2 hH3 hH4 hr4 hb4 hI3 ho3 hg3 KW KL HID HOW HSB HSZ
    go_wp2_with fail
    go_ret2
    exact ⟨p4, c4, rfl, HE.out⟩
set_option maxHeartbeats 400000 in
theorem mrefused_none (w : World) {pv : Value} (h : Nob w pv) (q : Option Addr) (n c : Nat) :
    Calls Tryz.prog 77 #[pv, .slice q n c] w fun e w' => e = .returned (.int .i64 1) ∧ w' = w := by
  have K := show Hid (Calls Tryz.prog 51 #[pv, .int .i64 (-1)] w fun e w' => e = .returned (.tuple #[.slice none 0 0, .int .i64 1]) ∧ w' = w) from below_none w h (-1)
  clear h
  go_enter Tryz.func77, Tryz.ntmps77
  go_wp2_with fail
  refine K.out.mono ?_
  rintro e w1 ⟨rfl, hw⟩
  subst w1
  go_wp2_with fail
  go_ret
  exact ⟨rfl, rfl⟩
set_option maxHeartbeats 400000 in
theorem mweights_none (w : World) {pv : Value} (h : Nob w pv) (q : Option Addr) (n c : Nat) :
    Calls Tryz.prog 47 #[pv, .slice q n c] w fun e w' => e = .returned (.tuple #[.slice none 0 0, .int .i64 1]) ∧ Below w.heap.size w w' := by
  have K := show Hid (Calls Tryz.prog 77 #[pv, .slice q n c] w fun e w' => e = .returned (.int .i64 1) ∧ w' = w) from mrefused_none w h _ _ _
  clear h
  go_enter Tryz.func47, Tryz.ntmps47
  go_wp2_with fail
  refine K.out.mono ?_
  rintro e w1 ⟨rfl, hw⟩
  subst w1
  go_wp2_with fail
  go_ret2
  exact ⟨rfl, Below.refl _ _⟩
theorem qweights_none (w : World) (hZ : Bt.Tz w) {q0 : Option Addr} (h : Nob w (.pointer q0)) {r : List Nat} (hr : Ok r) (g : Int) :
    Calls Tryz.prog 22 #[.pointer q0, .agg (cellsQ r g)] w fun e w' => ∃ p c, e = .returned (.tuple #[.slice p 0 c, .int .i64 1]) ∧ Below w.heap.size w w' :=
  (qweights_of w hZ hr g [] 1 (show Hid _ from fun w' iv hb hv => by
    obtain ⟨p, c, rfl, hlen, hcell⟩ := hv
    exact (mweights_none w' (h.later hb) _ _ _).mono fun e w'' hh => ⟨none, 0, hh.1, ⟨_, _, rfl, by simp, fun k hk => by simp at hk⟩, hh.2⟩)).mono fun e w' ⟨p, c, h1, _, h2⟩ => ⟨p, c, h1, h2⟩
set_option maxRecDepth 100000 in
set_option maxHeartbeats 1000000 in
theorem qparse_none (w : World) {q0 : Option Addr} (h : Nob w (.pointer q0)) (s : ByteArray) :
    Calls Tryz.prog 18 #[.pointer q0, .string s] w fun e w' => e = .returned (.tuple #[.agg (cellsQ Bt.Bs.zero 0), .agg #[.int .i64 1, .int .i64 0, .int .i64 0, .int .i64 0]]) ∧ Below w.heap.size w w' := by
  have KM := show Hid (∀ w', Below w.heap.size w w' → Calls Tryz.prog 28 #[.pointer q0] w' fun e w'' => e = .returned (.bool false) ∧ Below w'.heap.size w' w'') from fun w' hb => qmade_none w' (h.later hb)
  clear h
  go_enter Tryz.func18, Tryz.ntmps18
  go_wp2_with fail
  have b0 := show Hid (Below w.heap.size w ((w.alloc (.cells (cellsQ Bt.Bs.zero 0) 26)).alloc (.cells #[.int .i64 0, .int .i64 0, .int .i64 0, .int .i64 0] 49)) ∧ SeqAt ((w.alloc (.cells (cellsQ Bt.Bs.zero 0) 26)).alloc (.cells #[.int .i64 0, .int .i64 0, .int .i64 0, .int .i64 0] 49)) w.heap.size Bt.Bs.zero 0 ∧ Fl ((w.alloc (.cells (cellsQ Bt.Bs.zero 0) 26)).alloc (.cells #[.int .i64 0, .int .i64 0, .int .i64 0, .int .i64 0] 49)) (w.heap.size + 1) 0 0 0 0) from ⟨Bt.below_two w _ _, (Bt.heap_two w _ _).1, (Bt.heap_two w _ _).2⟩
  change Calls _ _ _ ((w.alloc (.cells (cellsQ Bt.Bs.zero 0) 26)).alloc (.cells #[.int .i64 0, .int .i64 0, .int .i64 0, .int .i64 0] 49)) _
  generalize (w.alloc (.cells (cellsQ Bt.Bs.zero 0) 26)).alloc (.cells #[.int .i64 0, .int .i64 0, .int .i64 0, .int .i64 0] 49) = w0 at *
  refine (KM.out _ b0.out.1).mono ?_
  rintro e w1 ⟨rfl, hb1⟩
  have H1 := show Hid (Below w.heap.size w w1 ∧ SeqAt w1 w.heap.size Bt.Bs.zero 0 ∧ Fl w1 (w.heap.size + 1) 0 0 0 0) from ⟨b0.out.1.trans (hb1.mono b0.out.1.size), b0.out.2.1.later hb1 b0.out.2.1.lt, (hb1.block _ (lt_of_block b0.out.2.2)).trans b0.out.2.2⟩
  clear hb1 b0 KM
  go_wp2_with (refine wpList_stQA _ rfl rfl _ _ rfl _ rfl (r' := Bt.Bs.zero) (g' := 0) rfl H1.out.2.1 zero_len zero_len ?_)
  intro w2 hs2 hk2
  have HF := show Hid (Fl w2 (w.heap.size + 1) 0 0 0 0) from Fl.kp H1.out.2.2 hk2 (by omega)
  go_wp2_with (refine wpList_stFA _ rfl rfl _ _ rfl _ rfl rfl HF.out ?_)
  intro w3 hf3 hk3
  have hx := st_all H1.out.1 hk2 hs2 hk3 hf3
  have HX := show Hid _ from hx
  clear hx hs2 hk2 hf3 hk3 HF H1
  go_wp2_with fail
  refine bodyPost_ret (results_seq_cell rfl _ _ w.heap.size (w.heap.size + 1) _ _ _ _ _ _ _ _ rfl HX.out.1 rfl HX.out.2.1 Tryz.underlying26 rfl (by kernel_rfl) Tryz.underlying49 rfl (by kernel_rfl)) rfl ?_
  exact ⟨rfl, HX.out.2.2⟩
end Go.Proofs.YtkmmlimekachbabGreatDoor

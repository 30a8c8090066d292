/-
  The deferred closure of read: idle, or it catches a fault. No condition.
-/
import Derived.Test.YtcidldgenogdkaaGreatDoorSPtsC
import Derived.Recover
namespace Go.Proofs.YtcidldgenogdkaaGreatDoor
open Go.RowKit Go.Maps
open Fm (Nd)
open Sx (Tn T Lv)

/-- A fault at block g. -/
def Fl (w : World) (g : Nat) (e l c o : Int) : Prop := w.heap[g]? = some (.cells #[.int .i64 e, .int .i64 l, .int .i64 c, .int .i64 o] 31 (0, 0))
section
variable {w w' : World} {g : Nat} {e l c o : Int}
theorem Fl.c0 (h : Fl w g e l c o) : w.cell? ⟨g, 0, none⟩ = some (.int .i64 e) := by rw [cell_of_row w g 0 _ _ _ h]; rfl
theorem Fl.c1 (h : Fl w g e l c o) : w.cell? ⟨g, 1, none⟩ = some (.int .i64 l) := by rw [cell_of_row w g 1 _ _ _ h]; rfl
theorem Fl.c2 (h : Fl w g e l c o) : w.cell? ⟨g, 2, none⟩ = some (.int .i64 c) := by rw [cell_of_row w g 2 _ _ _ h]; rfl
theorem Fl.c3 (h : Fl w g e l c o) : w.cell? ⟨g, 3, none⟩ = some (.int .i64 o) := by rw [cell_of_row w g 3 _ _ _ h]; rfl
theorem Fl.fr (h : Fl w g e l c o) (j : Nat) : w.frozen? ⟨g, j, none⟩ = false := frozen_of_row w g j _ _ h
theorem Fl.s4 (h : Fl w g e l c o) (x y z u : Int) : Fl ((((w.setCell ⟨g, 0, none⟩ (.int .i64 x)).setCell ⟨g, 1, none⟩ (.int .i64 y)).setCell ⟨g, 2, none⟩ (.int .i64 z)).setCell ⟨g, 3, none⟩ (.int .i64 u)) g x y z u :=
  heap_setCell_same _ g 3 _ _ _ (heap_setCell_same _ g 2 _ _ _ (heap_setCell_same _ g 1 _ _ _ (heap_setCell_same w g 0 _ _ _ h)))
theorem Fl.lt (h : Fl w g e l c o) : g < w.heap.size := lt_of_block h
end
theorem Box.set {w : World} {g : Nat} {x : Value} {ty : TypeId} (h : Box w g x ty) (y : Value) : Box (w.setCell ⟨g, 0, none⟩ y) g y ty := heap_setCell_same w g 0 _ _ _ h
theorem neq_nil (w : World) : (binOp BinOp.neq 20 .nilIface .nilIface).run Tryz.prog w = .ok (.bool false) w := by kernel_rfl
theorem neq_flt (w : World) (e l c o : Int) : (binOp BinOp.neq 20 (.iface 31 (.agg #[.int .i64 e, .int .i64 l, .int .i64 c, .int .i64 o])) .nilIface).run Tryz.prog w = .ok (.bool true) w := by kernel_rfl
theorem assert_flt (w : World) (e l c o : Int) : (Instr.typeAssert (.iface 31 (.agg #[.int .i64 e, .int .i64 l, .int .i64 c, .int .i64 o])) 20 31 true).run Tryz.prog w = .ok (.tuple #[.agg #[.int .i64 e, .int .i64 l, .int .i64 c, .int .i64 o], .bool true]) w := by kernel_rfl
set_option maxHeartbeats 400000 in
theorem catch_idle (a0 a1 a2 a3 a4 : Value) (w : World) :
    CallsD Tryz.prog 53 #[a0, a1, a2, a3, a4] .returning w fun e u' w' => e = .returned (.tuple #[]) ∧ u' = .returning ∧ w' = w := by
  have hn := neq_nil
  refine callsD_of_wpS Tryz.func53 rfl fun c₀ cs hu => ?_
  simp only [Tryz.ntmps53, List.size_toArray, List.length_cons, List.length_nil, Nat.reduceAdd, Nat.reduceSub, Array.replicate_succ, Array.replicate_zero, List.push_toArray, List.append_toArray, List.nil_append, List.cons_append]
  apply wpS_seq
  apply wpS_region
  simp [wpOpsS, go_sem, recoverD, hu, Exit.thenS]
  refine wpS_of_wp (Code.wp_mono (Q := fun e a w' => e = .normal ∧ a.defers = [] ∧ w' = w) ?_ ?_)
  · rintro e a w' ⟨rfl, h1, rfl⟩
    cases c₀
    simp_all [bodyPostS, results, Tryz.results53]
  · clear hu c₀ cs
    go_wp2_with fail
/-- What the closure leaves behind a fault. -/
def Caught (w : World) (b m : Nat) (v : Value) (t : List Nd) (g2 g3 g4 : Nat) (e l c o : Int) (w' : World) : Prop :=
  Box w' g2 (.int .i64 0) 3 ∧ Box w' g3 (.int .i64 0) 3 ∧ Fl w' g4 e l c o ∧ ∃ v', Tb w' b m v' t ∧ Lies w.heap.size v v' ∧ Kp (fun k => Ft b m v k ∨ k = g2 ∨ k = g3 ∨ k = g4) w w'
theorem Box.nft {w : World} {g b m : Nat} {x : Value} {v : Value} {t : List Nd} (h : Box w g x 3) (hT : Tb w b m v t) : ¬ Ft b m v g := by
  unfold Box at h
  rintro (rfl | rfl | e)
  · rw [hT.tab] at h; simp at h
  · obtain ⟨D, ⟨es, cl, hm, _⟩, _⟩ := hT.map
    rw [h] at hm; cases hm
  · obtain ⟨_, cur, hh⟩ := hT.row.lt g e
    rw [h] at hh; simp at hh
theorem Fl.nft {w : World} {g b m : Nat} {e l c o : Int} {v : Value} {t : List Nd} (h : Fl w g e l c o) (hT : Tb w b m v t) : ¬ Ft b m v g := by
  unfold Fl at h
  rintro (rfl | rfl | e)
  · rw [hT.tab] at h; simp at h
  · obtain ⟨D, ⟨es, cl, hm, _⟩, _⟩ := hT.map
    rw [h] at hm; cases hm
  · obtain ⟨_, cur, hh⟩ := hT.row.lt g e
    rw [h] at hh; simp at hh
theorem Box.tab {w : World} {g b m : Nat} {v : Value} {t : List Nd} {x : Value} (h : Box w g x 23) (hT : Tb w b m v t) : ¬ Ft b m v g := by
  unfold Box at h
  rintro (rfl | rfl | e)
  · rw [hT.tab] at h; simp at h
  · obtain ⟨D, ⟨es, cl, hm, _⟩, _⟩ := hT.map
    rw [h] at hm; cases hm
  · obtain ⟨_, cur, hh⟩ := hT.row.lt g e
    rw [h] at hh; simp at hh
def setF (w : World) (g2 g3 g4 : Nat) (e l c o : Int) : World :=
  (((((w.setCell ⟨g2, 0, none⟩ (.int .i64 0)).setCell ⟨g3, 0, none⟩ (.int .i64 0)).setCell ⟨g4, 0, none⟩ (.int .i64 e)).setCell ⟨g4, 1, none⟩ (.int .i64 l)).setCell ⟨g4, 2, none⟩ (.int .i64 c)).setCell ⟨g4, 3, none⟩ (.int .i64 o)
theorem Box.other {w : World} {g g' : Nat} {x : Value} {ty : TypeId} (h : Box w g x ty) (hne : g ≠ g') (j : Nat) (y : Value) : Box (w.setCell ⟨g', j, none⟩ y) g x ty := (Below.heap_setCell _ _ _ _ hne).trans h
theorem Fl.other {w : World} {g g' : Nat} {e l c o : Int} (h : Fl w g e l c o) (hne : g ≠ g') (j : Nat) (y : Value) : Fl (w.setCell ⟨g', j, none⟩ y) g e l c o := (Below.heap_setCell _ _ _ _ hne).trans h
theorem setF_other (w : World) (g2 g3 g4 : Nat) (e l c o : Int) {k : Nat} (h2 : k ≠ g2) (h3 : k ≠ g3) (h4 : k ≠ g4) : (setF w g2 g3 g4 e l c o).heap[k]? = w.heap[k]? := by
  unfold setF
  rw [Below.heap_setCell _ _ _ _ h4, Below.heap_setCell _ _ _ _ h4, Below.heap_setCell _ _ _ _ h4, Below.heap_setCell _ _ _ _ h4, Below.heap_setCell _ _ _ _ h3, Below.heap_setCell _ _ _ _ h2]
theorem Kp.setS {S : Nat → Prop} {a b : World} (h : Kp S a b) {g : Nat} (hg : S g) (j : Nat) (x : Value) : Kp S a (b.setCell ⟨g, j, none⟩ x) :=
  ⟨h.os, h.tape, h.output, by simpa using h.size, fun k hk hn => (Below.heap_setCell _ _ _ _ (fun e => hn (by subst e; exact hg))).trans (h.block k hk hn)⟩
theorem setF_kp {S : Nat → Prop} {a w : World} (h : Kp S a w) {g2 g3 g4 : Nat} (h2 : S g2) (h3 : S g3) (h4 : S g4) (e l c o : Int) : Kp S a (setF w g2 g3 g4 e l c o) :=
  (((((h.setS h2 _ _).setS h3 _ _).setS h4 _ _).setS h4 _ _).setS h4 _ _).setS h4 _ _
theorem caught_of {w w1 : World} {b m g2 g3 g4 : Nat} {v : Value} {t : List Nd} {x y e0 l0 c0 o0 e l c o : Int} (ha : After w b m v t w1) (h2 : Box w1 g2 (.int .i64 x) 3) (h3 : Box w1 g3 (.int .i64 y) 3) (h4 : Fl w1 g4 e0 l0 c0 o0)
    (n23 : g2 ≠ g3) (n24 : g2 ≠ g4) (n34 : g3 ≠ g4) : Caught w b m v t g2 g3 g4 e l c o (setF w1 g2 g3 g4 e l c o).drew := by
  obtain ⟨v', hT, hL, hK⟩ := ha
  have hf2 : Box (setF w1 g2 g3 g4 e l c o) g2 (.int .i64 0) 3 := by
    unfold setF
    exact (((((h2.set _).other n23 _ _).other n24 _ _).other n24 _ _).other n24 _ _).other n24 _ _
  have hf3 : Box (setF w1 g2 g3 g4 e l c o) g3 (.int .i64 0) 3 := by
    unfold setF
    exact ((((Box.set (h3.other (Ne.symm n23) 0 (.int .i64 0)) _).other n34 _ _).other n34 _ _).other n34 _ _).other n34 _ _
  have hf4 : Fl (setF w1 g2 g3 g4 e l c o) g4 e l c o := by
    unfold setF
    exact ((h4.other (Ne.symm n24) 0 (.int .i64 0)).other (Ne.symm n34) 0 (.int .i64 0)).s4 e l c o
  have hT' : Tb (setF w1 g2 g3 g4 e l c o) b m v' t := hT.keep fun k hk => setF_other _ _ _ _ _ _ _ _ (fun h => h2.nft hT (h ▸ hk)) (fun h => h3.nft hT (h ▸ hk)) (fun h => h4.nft hT (h ▸ hk))
  have hK2 : Kp (fun k => Ft b m v k ∨ k = g2 ∨ k = g3 ∨ k = g4) w w1 := ⟨hK.os, hK.tape, hK.output, hK.size, fun k hk hs => hK.block k hk fun h => hs (Or.inl h)⟩
  have hK3 := setF_kp hK2 (Or.inr (Or.inl rfl)) (Or.inr (Or.inr (Or.inl rfl))) (Or.inr (Or.inr (Or.inr rfl))) e l c o
  generalize setF w1 g2 g3 g4 e l c o = ws at *
  exact ⟨hf2, hf3, hf4, v', hT'.drew, hL, hK3.drew⟩
set_option maxRecDepth 100000 in
set_option maxHeartbeats 2000000 in
theorem catch_bad (e l c o : Int) (w : World) {b m g0 g1 g2 g3 g4 : Nat} {v : Value} {t t' : List Nd} {x y e0 l0 c0 o0 : Int} (hT : Tb w b m v t') (ht : ∃ u, t' = t ++ u) (h0 : Box w g0 (ptrV b) 23) (h1 : Box w g1 (.int .i64 (t.length : Int)) 3)
    (h2 : Box w g2 (.int .i64 x) 3) (h3 : Box w g3 (.int .i64 y) 3) (h4 : Fl w g4 e0 l0 c0 o0) (h23 : g2 ≠ g3) :
    CallsD Tryz.prog 53 #[.pointer (some ⟨g0, 0, none⟩), .pointer (some ⟨g1, 0, none⟩), .pointer (some ⟨g2, 0, none⟩), .pointer (some ⟨g3, 0, none⟩), .pointer (some ⟨g4, 0, none⟩)] (.panicking [{ v := .iface 31 (.agg #[.int .i64 e, .int .i64 l, .int .i64 c, .int .i64 o]), recovered := false }]) w fun en u' w' =>
      en = .returned (.tuple #[]) ∧ u' = .panicking [{ v := .iface 31 (.agg #[.int .i64 e, .int .i64 l, .int .i64 c, .int .i64 o]), recovered := true }] ∧ Caught w b m v t g2 g3 g4 e l c o w' := by
  have hn := neq_flt
  have hta := assert_flt
  have hcr : cutR t' (t.length : Int) = ((0 : Int), t) := by
    obtain ⟨u, rfl⟩ := ht
    unfold cutR
    rw [if_pos (by simp; omega)]
    simp
  have hwa : Below w.heap.size w (w.alloc (Obj.cells #[.int .i64 e, .int .i64 l, .int .i64 c, .int .i64 o] 31)) := below_alloc w _
  have K := show Hid (Calls Tryz.prog 54 #[.pointer (some ⟨b, 0, none⟩), .int .i64 (t.length : Int)] (w.alloc (Obj.cells #[.int .i64 e, .int .i64 l, .int .i64 c, .int .i64 o] 31)) fun e' w' => e' = .returned (.int .i64 0) ∧ After w b m v t w' ∧ Fl w' w.heap.size e l c o ∧ Box w' g2 (.int .i64 x) 3 ∧ Box w' g3 (.int .i64 y) 3 ∧ Fl w' g4 e0 l0 c0 o0) from by
    refine (cut_any _ (hT.later hwa) (t.length : Int)).mono fun e' w' h => ?_
    rw [hcr] at h
    have hft : ¬ Ft b m v w.heap.size := fun hf => by have := hT.foot _ hf; omega
    have hk := h.2.kp
    refine ⟨h.1, h.2.from_below hwa, ?_, ?_, ?_, ?_⟩
    · exact (hk.block _ (by simp) hft).trans (heap_alloc_new _ _)
    · exact (hk.block _ (by have := h2.lt; simp; omega) (h2.nft hT)).trans ((hwa.block _ h2.lt).trans h2)
    · exact (hk.block _ (by have := h3.lt; simp; omega) (h3.nft hT)).trans ((hwa.block _ h3.lt).trans h3)
    · exact (hk.block _ (by have := h4.lt; simp; omega) (h4.nft hT)).trans ((hwa.block _ h4.lt).trans h4)
  have HD := show Hid (g2 ≠ g3 ∧ g2 ≠ g4 ∧ g3 ≠ g4 ∧ g2 < w.heap.size ∧ g3 < w.heap.size ∧ g4 < w.heap.size ∧ (¬ Ft b m v g2 ∧ ¬ Ft b m v g3 ∧ ¬ Ft b m v g4)) from
    ⟨h23, fun e => by subst e; unfold Box at h2; unfold Fl at h4; rw [h2] at h4; simp at h4, fun e => by subst e; unfold Box at h3; unfold Fl at h4; rw [h3] at h4; simp at h4, h2.lt, h3.lt, h4.lt, h2.nft hT, h3.nft hT, h4.nft hT⟩
  have k0 := (show Box (w.alloc (Obj.cells #[.int .i64 e, .int .i64 l, .int .i64 c, .int .i64 o] 31)) g0 (ptrV b) 23 from (hwa.block _ h0.lt).trans h0).c0
  have k1 := (show Box (w.alloc (Obj.cells #[.int .i64 e, .int .i64 l, .int .i64 c, .int .i64 o] 31)) g1 _ 3 from (hwa.block _ h1.lt).trans h1).c0
  unfold ptrV at k0
  refine callsD_of_wpS Tryz.func53 rfl fun c₀ cs hu => ?_
  simp only [Tryz.ntmps53, List.size_toArray, List.length_cons, List.length_nil, Nat.reduceAdd, Nat.reduceSub, Array.replicate_succ, Array.replicate_zero, List.push_toArray, List.append_toArray, List.nil_append, List.cons_append]
  apply wpS_seq
  apply wpS_region
  simp [wpOpsS, go_sem, recoverD, hu, Exit.thenS]
  refine wpS_of_wp (Code.wp_mono (Q := fun en a w' => en = .normal ∧ a.defers = [] ∧ Caught w b m v t g2 g3 g4 e l c o w') ?_ ?_)
  · rintro en a w' ⟨rfl, h1, hc⟩
    cases c₀
    exact ⟨h1, _, rfl, _, by simp [results, Tryz.results53], rfl, rfl, hc⟩
  · clear hu c₀ cs hT ht h0 h1 h2 h3 h4 h23 hcr hwa
    go_wp2_with fail
    refine K.out.mono ?_
    rintro e' w1 ⟨rfl, ha, hf, hb2, hb3, hb4⟩
    have X := show Hid (After w b m v t w1 ∧ Box w1 g2 (.int .i64 x) 3 ∧ Box w1 g3 (.int .i64 y) 3 ∧ Fl w1 g4 e0 l0 c0 o0) from ⟨ha, hb2, hb3, hb4⟩
    have q2 := hb2.fr; have q3 := hb3.fr; have q4 := hb4.fr
    have p2 := hb2.c0; have p3 := hb3.c0
    have r0 := hb4.c0; have r1 := hb4.c1; have r2 := hb4.c2; have r3 := hb4.c3
    have f0 := hf.c0; have f1 := hf.c1; have f2 := hf.c2; have f3 := hf.c3
    have n1 : ¬ w.heap.size = g2 := by have := HD.out; omega
    have n2 : ¬ w.heap.size = g3 := by have := HD.out; omega
    have n3 : ¬ w.heap.size = g4 := by have := HD.out; omega
    have n4 : ¬ g2 = g3 := HD.out.1
    have n5 : ¬ g2 = g4 := HD.out.2.1
    have n6 : ¬ g3 = g4 := HD.out.2.2.1
    have n7 : ¬ g3 = g2 := fun e => n4 e.symm
    have n8 : ¬ g4 = g2 := fun e => n5 e.symm
    have n9 : ¬ g4 = g3 := fun e => n6 e.symm
    clear ha hf hb2 hb3 hb4 K k0 k1
    go_wp2_with fail
    go_region
    have hfin := caught_of (e := e) (l := l) (c := c) (o := o) X.out.1 X.out.2.1 X.out.2.2.1 X.out.2.2.2 HD.out.1 HD.out.2.1 HD.out.2.2.1
    unfold setF at hfin
    exact ⟨rfl, rfl, hfin⟩
end Go.Proofs.YtcidldgenogdkaaGreatDoor

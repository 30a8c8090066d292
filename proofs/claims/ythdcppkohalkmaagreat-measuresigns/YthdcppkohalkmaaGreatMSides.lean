/-
  Pairs of counts: the calls plus and turned. For counts from 0 to 2^40.
-/
import Derived.Test.YthdcppkohalkmaaGreatMCount
namespace Go.Proofs.YthdcppkohalkmaaGreat
open Go.RowKit Go.Maps
open Fm (Nd)

/-- A pair of counts as a value, and in memory. -/
def sdV (a : Int × Int) : Value := .agg #[.int .i64 a.1, .int .i64 a.2]
def S2 (w : World) (g : Nat) (a : Int × Int) : Prop := w.heap[g]? = some (.cells #[.int .i64 a.1, .int .i64 a.2] 80 (0, 0))
section
variable {w w' : World} {g : Nat} {a : Int × Int}
theorem S2.c0 (h : S2 w g a) : w.cell? ⟨g, 0, none⟩ = some (.int .i64 a.1) := by rw [cell_of_row w g 0 _ _ _ h]; rfl
theorem S2.c1 (h : S2 w g a) : w.cell? ⟨g, 1, none⟩ = some (.int .i64 a.2) := by rw [cell_of_row w g 1 _ _ _ h]; rfl
theorem S2.fr (h : S2 w g a) (j : Nat) : w.frozen? ⟨g, j, none⟩ = false := frozen_of_row w g j _ _ h
theorem S2.lt (h : S2 w g a) : g < w.heap.size := lt_of_block h
theorem S2.later (h : S2 w g a) (hb : Below w.heap.size w w') : S2 w' g a := (hb.block g h.lt).trans h
theorem S2.set (h : S2 w g a) (b : Int × Int) : S2 ((w.setCell ⟨g, 0, none⟩ (.int .i64 b.1)).setCell ⟨g, 1, none⟩ (.int .i64 b.2)) g b :=
  heap_setCell_same _ g 1 _ _ _ (heap_setCell_same w g 0 _ _ _ h)
end
theorem results_cell1 {P : Program} {fn : Func} {p : Tmp} {ty : TypeId} (h : fn.results = #[.cell p ty]) (tmps : Array Value) (w : World) (g : Nat) (t : TypeId) (cs : Array Value) (fr : Nat × Nat) (d : TypeDesc)
    (hp : tmps.getD p undef = .pointer (some ⟨g, 0, none⟩)) (hg : w.heap[g]? = some (.cells cs t fr))
    (hu : P.underlying ty = some d) (hd : (match d with | .struct _ | .array _ _ => true | _ => false) = true) (hi : (P.info? ty).map (·.size) = some cs.size) :
    (results fn tmps).run P w = .ok (.agg cs) w := by
  have hp' : tmps[p]?.getD undef = .pointer (some ⟨g, 0, none⟩) := by simpa using hp
  simp [results, h, hp', asAddr, run_loadVar_row w g t ty cs fr d hg hu hd hi]
theorem isL2 (w : World) (x y : Int) : IsL (w.alloc (Obj.cells #[.int .i64 x, .int .i64 y] 3)) (.slice (some ⟨w.heap.size, 0, none⟩) 2 2) [x, y] := by
  refine ⟨_, _, rfl, by simp, fun k hk => ⟨_, _, rfl, ?_⟩⟩
  rw [cell_of_row _ _ _ _ _ _ (heap_alloc_new _ _)]
  have : k = 0 ∨ k = 1 := by simp at hk; omega
  rcases this with rfl | rfl <;> rfl
def In (a : Int × Int) : Prop := (0 ≤ a.1 ∧ a.1 ≤ 1099511627776) ∧ (0 ≤ a.2 ∧ a.2 ≤ 1099511627776)
theorem two_in {a b : Int} (ha : 0 ≤ a ∧ a ≤ 1099511627776) (hb : 0 ≤ b ∧ b ≤ 1099511627776) : ∀ x ∈ [a, b], 0 ≤ x ∧ x ≤ Ms.M := by
  intro x hx
  simp only [List.mem_cons, List.not_mem_nil, or_false] at hx
  rcases hx with rfl | rfl
  · exact ha
  · exact hb
/-- One operation that comes up, and what follows. -/
def StepH (ops : Array Oper) (Q : Exit → Act → World → Prop) (S : World → Prop) (fuel : Nat) (listed : Array Bool) (a : Act) (w : World) (i : Nat) (oi : Oper) : Prop :=
  ∀ K' : Act → World → Prop, Shut (∀ a w, S w → (S w → wpAnyH Tryz.prog .any ops Q S fuel (listed.setIfInBounds i true) a w) → K' a w) → if Region.wanted oi (yielded ops a.tmps) = true then Oper.wp Tryz.prog oi a w K' Q else K' (a.put oi.dst undef) w
section
variable {ops : Array Oper} {Q : Exit → Act → World → Prop} {S : World → Prop} {fuel : Nat} {listed : Array Bool} {a : Act} {w : World}
theorem oneH (i : Nat) {oi : Oper} (hr : Region.ready .any ops listed = [i]) (hi : ops[i]? = some oi) (h : StepH ops Q S fuel listed a w i oi) : wpAnyH Tryz.prog .any ops Q S (fuel + 1) listed a w :=
  wpAnyH_ready hr (by simp) (AllReadyH.cons hi h AllReadyH.nil)
theorem twoH (i j : Nat) {oi oj : Oper} (hr : Region.ready .any ops listed = [i, j]) (hi : ops[i]? = some oi) (hj : ops[j]? = some oj) (h : StepH ops Q S fuel listed a w i oi) (h2 : StepH ops Q S fuel listed a w j oj) : wpAnyH Tryz.prog .any ops Q S (fuel + 1) listed a w :=
  wpAnyH_ready hr (by simp) (AllReadyH.cons hi h (AllReadyH.cons hj h2 AllReadyH.nil))
theorem stepW (i : Nat) (d : Option Tmp) {oi : Oper} (v : Value) (w' : World) (hd : oi.dst = d) (hw : Region.wanted oi (yielded ops a.tmps) = true) (hrun : (execOp a.eval oi).run Tryz.prog w = .ok (.value v) w') (hS : S w')
    (h : S w' → wpAnyH Tryz.prog .any ops Q S fuel (listed.setIfInBounds i true) (a.put d v) w') : StepH ops Q S fuel listed a w i oi := by
  subst hd
  intro K hK
  rw [if_pos hw]
  unfold Oper.wp
  rw [hrun, Oper.upon_value]
  exact hK.out _ _ hS h
theorem stepU (i : Nat) {oi : Oper} (w' : World) (hd : oi.dst = none) (hw : Region.wanted oi (yielded ops a.tmps) = true) (hrun : (execOp a.eval oi).run Tryz.prog w = .ok .skip w') (hS : S w')
    (h : S w' → wpAnyH Tryz.prog .any ops Q S fuel (listed.setIfInBounds i true) a w') : StepH ops Q S fuel listed a w i oi := by
  intro K hK
  rw [if_pos hw]
  unfold Oper.wp
  rw [hrun, Oper.upon_skip, hd]
  exact hK.out _ _ hS h
theorem stepC (i : Nat) (d : Option Tmp) {oi : Oper} (hd : oi.dst = d) (hw : Region.wanted oi (yielded ops a.tmps) = true) (f : FuncId) (xs : List Operand) (ts : Array TypeId) (ho : oi.op = Op.call { callee := Callee.value (Operand.func f), args := xs.toArray, argTypes := ts }) (vs : List Value) (hv : xs.map a.eval = vs)
    (hcf : ∀ vs w, (callFunc f vs).run Tryz.prog w = .ok (.enter f vs) w)
    (h : Calls Tryz.prog f vs.toArray w fun e w' => ∃ v, e = .returned v ∧ S w' ∧ (S w' → wpAnyH Tryz.prog .any ops Q S fuel (listed.setIfInBounds i true) (a.put d v) w')) : StepH ops Q S fuel listed a w i oi := by
  subst hd
  subst hv
  intro K hK
  rw [if_pos hw]
  have hrun : (execOp a.eval oi).run Tryz.prog w = .ok (.enter f (xs.map a.eval).toArray) w := by
    simp [execOp, ho, resolve, invoke, Deferred.ofValue, Act.eval, hcf]
  unfold Oper.wp
  rw [hrun, Oper.upon_enter]
  refine h.mono ?_
  rintro e w' ⟨v, rfl, hS, hn⟩
  exact hK.out _ _ hS hn
end
set_option maxHeartbeats 1000000 in
theorem turned_any (w : World) (a : Int × Int) : Calls Tryz.prog 75 #[sdV a] w fun e w' => e = .returned (sdV (Ms.swp a)) ∧ Below w.heap.size w w' := by
  obtain ⟨x, y⟩ := a
  unfold sdV Ms.swp
  have HB := show Hid (S2 ((w.alloc (Obj.cells #[.int .i64 x, .int .i64 y] 80)).alloc (Obj.cells #[.int .i64 y, .int .i64 x] 80)) (w.heap.size + 1) (y, x) ∧ Below w.heap.size w ((w.alloc (Obj.cells #[.int .i64 x, .int .i64 y] 80)).alloc (Obj.cells #[.int .i64 y, .int .i64 x] 80))) from ⟨by unfold S2; exact heap_alloc2_new _ _ _, (below_alloc w _).alloc (below_alloc w _).size _⟩
  go_enter Tryz.func75, Tryz.ntmps75
  go_wp2
  refine bodyPost_ret (results_cell1 rfl _ _ (w.heap.size + 1) _ _ _ _ rfl HB.out.1 Tryz.underlying80 rfl (by kernel_rfl)) rfl ?_
  exact ⟨rfl, HB.out.2⟩
/-- What holds while plus reckons. -/
def Ps (w : World) (a b : Int × Int) (wx : World) : Prop := (S2 wx w.heap.size a ∧ S2 wx (w.heap.size + 1) b) ∧ Below w.heap.size w wx ∧ ∃ r : Int × Int, S2 wx (w.heap.size + 1 + 1) r
theorem Ps.later {w wx wy : World} {a b : Int × Int} (h : Ps w a b wx) (hb : Below wx.heap.size wx wy) : Ps w a b wy :=
  ⟨⟨h.1.1.later hb, h.1.2.later hb⟩, h.2.1.trans (hb.mono h.2.1.size), h.2.2.elim fun r hr => ⟨r, hr.later hb⟩⟩
theorem Ps.put {w wx : World} {a b : Int × Int} (h : Ps w a b wx) (c : Int × Int) : Ps w a b ((wx.setCell ⟨w.heap.size + 1 + 1, 0, none⟩ (.int .i64 c.1)).setCell ⟨w.heap.size + 1 + 1, 1, none⟩ (.int .i64 c.2)) := by
  obtain ⟨⟨h1, h2⟩, h3, r, hr⟩ := h
  have hn : ∀ (w1 : World) (k j : Nat) (x : Value), k ≠ w.heap.size + 1 + 1 → (w1.setCell ⟨w.heap.size + 1 + 1, j, none⟩ x).heap[k]? = w1.heap[k]? := fun w1 k j x hk => heap_setCell_other w1 _ k _ hk
  refine ⟨⟨((hn _ _ _ _ (by omega)).trans (hn _ _ _ _ (by omega))).trans h1, ((hn _ _ _ _ (by omega)).trans (hn _ _ _ _ (by omega))).trans h2⟩, (h3.setCell (by show w.heap.size ≤ w.heap.size + 1 + 1; omega) _).setCell (by show w.heap.size ≤ w.heap.size + 1 + 1; omega) _, c, hr.set c⟩
set_option maxRecDepth 100000 in
set_option maxHeartbeats 4000000 in
theorem plus_any (w : World) (a b : Int × Int) (ha : In a) (hb : In b) : Calls Tryz.prog 74 #[sdV a, sdV b] w fun e w' => e = .returned (sdV (Ms.add2 Ms.ms a b)) ∧ Below w.heap.size w w' := by
  have K1 := show Hid (∀ w v, IsL w v [a.1, b.1] → Calls Tryz.prog 64 #[v] w fun e w' => e = .returned (.int .i64 (Ms.ms a.1 b.1)) ∧ w' = w) from fun w v h => sum_any w v _ h (two_in ha.1 hb.1)
  have K2 := show Hid (∀ w v, IsL w v [a.2, b.2] → Calls Tryz.prog 64 #[v] w fun e w' => e = .returned (.int .i64 (Ms.ms a.2 b.2)) ∧ w' = w) from fun w v h => sum_any w v _ h (two_in ha.2 hb.2)
  have HR := show Hid (sdV (Ms.add2 Ms.ms a b) = .agg #[.int .i64 (Ms.ms a.1 b.1), .int .i64 (Ms.ms a.2 b.2)]) from rfl
  rw [HR.out]
  generalize hr1 : Ms.ms a.1 b.1 = r1 at *
  generalize hr2 : Ms.ms a.2 b.2 = r2 at *
  obtain ⟨a1, a2⟩ := a
  obtain ⟨b1, b2⟩ := b
  unfold sdV
  simp only at *
  obtain ⟨w0, hw0⟩ : ∃ w0, w0 = ((w.alloc (Obj.cells #[.int .i64 a1, .int .i64 a2] 80)).alloc (Obj.cells #[.int .i64 b1, .int .i64 b2] 80)).alloc (Obj.cells #[.int .i64 0, .int .i64 0] 80) := ⟨_, rfl⟩
  have HS0 := show Hid (Ps w (a1, a2) (b1, b2) w0) from by
    rw [hw0]
    refine ⟨⟨?_, ?_⟩, ((below_alloc w _).alloc (below_alloc w _).size _).alloc ((below_alloc w _).alloc (below_alloc w _).size _).size _, (0, 0), ?_⟩
    · exact (S2.later (w := w.alloc _) (heap_alloc_new _ _) (below_alloc _ _)).later (below_alloc _ _)
    · exact S2.later (w := (w.alloc _).alloc _) (heap_alloc2_new _ _ _) (below_alloc _ _)
    · have h := heap_alloc_new ((w.alloc (Obj.cells #[.int .i64 a1, .int .i64 a2] 80)).alloc (Obj.cells #[.int .i64 b1, .int .i64 b2] 80)) (Obj.cells #[.int .i64 0, .int .i64 0] 80)
      have e : ((w.alloc (Obj.cells #[.int .i64 a1, .int .i64 a2] 80)).alloc (Obj.cells #[.int .i64 b1, .int .i64 b2] 80)).heap.size = w.heap.size + 1 + 1 := by simp
      rw [e] at h
      exact h
  clear HR hr1 hr2 ha hb
  go_enter Tryz.func74, Tryz.ntmps74
  go_wp2_with fail
  rw [← hw0]
  clear hw0
  refine wp_region_held_drew (S := Ps w (a1, a2) (b1, b2)) (by kernel_rfl) (HS0.out.later ((Below.refl _ _).drew)) (fun hH => ?_)
  refine takeV 0 (some 5) (.pointer (some ⟨w.heap.size, 0, none⟩)) rfl rfl (by kernel_rfl) (by kernel_rfl) (by kernel_rfl) (fun _ _ _ h => h) rfl (fun wx hx => by go_simp) hH ?_
  simp only [Act.put, List.setIfInBounds_toArray, List.set_cons_zero, List.set_cons_succ]
  refine takeV 1 (some 6) (.int .i64 a1) rfl rfl (by kernel_rfl) (by kernel_rfl) (by kernel_rfl) (fun _ _ _ h => h) rfl (fun wx hx => by have hcc := hx.1.1.c0; go_simp) hH ?_
  simp only [Act.put, List.setIfInBounds_toArray, List.set_cons_zero, List.set_cons_succ]
  refine takeV 2 (some 7) (.pointer (some ⟨w.heap.size + 1, 0, none⟩)) rfl rfl (by kernel_rfl) (by kernel_rfl) (by kernel_rfl) (fun _ _ _ h => h) rfl (fun wx hx => by go_simp) hH ?_
  simp only [Act.put, List.setIfInBounds_toArray, List.set_cons_zero, List.set_cons_succ]
  refine takeV 3 (some 8) (.int .i64 b1) rfl rfl (by kernel_rfl) (by kernel_rfl) (by kernel_rfl) (fun _ _ _ h => h) rfl (fun wx hx => by have hcc := hx.1.2.c0; go_simp) hH ?_
  simp only [Act.put, List.setIfInBounds_toArray, List.set_cons_zero, List.set_cons_succ]
  refine takeV 6 (some 11) (.pointer (some ⟨w.heap.size, 1, none⟩)) rfl rfl (by kernel_rfl) (by kernel_rfl) (by kernel_rfl) (fun _ _ _ h => h) rfl (fun wx hx => by go_simp) hH ?_
  simp only [Act.put, List.setIfInBounds_toArray, List.set_cons_zero, List.set_cons_succ]
  refine takeV 7 (some 12) (.int .i64 a2) rfl rfl (by kernel_rfl) (by kernel_rfl) (by kernel_rfl) (fun _ _ _ h => h) rfl (fun wx hx => by have hcc := hx.1.1.c1; go_simp) hH ?_
  simp only [Act.put, List.setIfInBounds_toArray, List.set_cons_zero, List.set_cons_succ]
  refine takeV 8 (some 13) (.pointer (some ⟨w.heap.size + 1, 1, none⟩)) rfl rfl (by kernel_rfl) (by kernel_rfl) (by kernel_rfl) (fun _ _ _ h => h) rfl (fun wx hx => by go_simp) hH ?_
  simp only [Act.put, List.setIfInBounds_toArray, List.set_cons_zero, List.set_cons_succ]
  refine takeV 9 (some 14) (.int .i64 b2) rfl rfl (by kernel_rfl) (by kernel_rfl) (by kernel_rfl) (fun _ _ _ h => h) rfl (fun wx hx => by have hcc := hx.1.2.c1; go_simp) hH ?_
  simp only [Act.put, List.setIfInBounds_toArray, List.set_cons_zero, List.set_cons_succ]
  refine twoH 4 10 (by kernel_rfl) rfl rfl (stepW 4 (some 9) (.slice (some ⟨(w0.drew).heap.size, 0, none⟩) 2 2) ((w0.drew).alloc (Obj.cells #[.int .i64 a1, .int .i64 b1] 3)) rfl rfl (by go_simp) (hH.later (below_alloc _ _)) (fun hHs => ?_)) (stepW 10 (some 15) (.slice (some ⟨(w0.drew).heap.size, 0, none⟩) 2 2) ((w0.drew).alloc (Obj.cells #[.int .i64 a2, .int .i64 b2] 3)) rfl rfl (by go_simp) (hH.later (below_alloc _ _)) (fun hHs => ?_))
  · have I4 := isL2 w0.drew a1 b1
    generalize (Value.slice (some ⟨w0.drew.heap.size, 0, none⟩) 2 2) = v4 at *
    generalize w0.drew.alloc (Obj.cells #[.int .i64 a1, .int .i64 b1] 3) = w4 at *
    clear hH
    simp only [Act.put, List.setIfInBounds_toArray, List.set_cons_zero, List.set_cons_succ]
    refine twoH 5 10 (by kernel_rfl) rfl rfl (stepC 5 (some 10) rfl rfl 64 _ _ rfl [v4] rfl (fun _ _ => Tryz.call64 _ _) ?_) (stepW 10 (some 15) (.slice (some ⟨(w4).heap.size, 0, none⟩) 2 2) ((w4).alloc (Obj.cells #[.int .i64 a2, .int .i64 b2] 3)) rfl rfl (by go_simp) (hHs.later (below_alloc _ _)) (fun hHss => ?_))
    · refine (K1.out _ _ I4).mono ?_
      rintro e w' ⟨rfl, hw'⟩
      subst w'
      refine ⟨_, rfl, hHs, fun _ => ?_⟩
      simp only [Act.put, List.setIfInBounds_toArray, List.set_cons_zero, List.set_cons_succ]
      refine oneH 10 (by kernel_rfl) rfl (stepW 10 (some 15) (.slice (some ⟨(w4).heap.size, 0, none⟩) 2 2) ((w4).alloc (Obj.cells #[.int .i64 a2, .int .i64 b2] 3)) rfl rfl (by go_simp) (hHs.later (below_alloc _ _)) (fun hHss => ?_))
      have I10 := isL2 w4 a2 b2
      generalize (Value.slice (some ⟨w4.heap.size, 0, none⟩) 2 2) = v10 at *
      generalize w4.alloc (Obj.cells #[.int .i64 a2, .int .i64 b2] 3) = w10 at *
      simp only [Act.put, List.setIfInBounds_toArray, List.set_cons_zero, List.set_cons_succ]
      refine oneH 11 (by kernel_rfl) rfl (stepC 11 (some 16) rfl rfl 64 _ _ rfl [v10] rfl (fun _ _ => Tryz.call64 _ _) ?_)
      refine (K2.out _ _ I10).mono ?_
      rintro e w' ⟨rfl, hw'⟩
      subst w'
      refine ⟨_, rfl, hHss, fun _ => ?_⟩
      simp only [Act.put, List.setIfInBounds_toArray, List.set_cons_zero, List.set_cons_succ]
      refine takeV 12 (some 17) (.agg #[.int .i64 r1, .int .i64 r2]) rfl rfl (by kernel_rfl) (by kernel_rfl) (by kernel_rfl) (fun _ _ _ h => h) rfl (fun wx hx => by go_simp) hHss ?_
      simp only [Act.put, List.setIfInBounds_toArray, List.set_cons_zero, List.set_cons_succ]
      obtain ⟨rr, hrr⟩ := hHss.2.2
      have d0 := hrr.c0; have d1 := hrr.c1; have df := hrr.fr
      refine oneH 13 (by kernel_rfl) rfl (stepU 13 _ rfl rfl (by go_simp) (hHss.put (r1, r2)) (fun hF => ?_))
      refine wpAnyH_done (by kernel_rfl) ?_ _
      have HF := show Hid (S2 _ _ (r1, r2) ∧ Below w.heap.size w _) from ⟨hrr.set (r1, r2), hF.2.1⟩
      generalize ((World.setCell _ _ _).setCell _ _) = wf at *
      clear d0 d1 df hrr hF
      go_wp2
      refine bodyPost_ret (results_cell1 rfl _ _ (w.heap.size + 1 + 1) _ _ _ _ rfl HF.out.1 Tryz.underlying80 rfl (by kernel_rfl)) rfl ?_
      exact ⟨rfl, HF.out.2⟩
    · have I10 := isL2 w4 a2 b2
      have I4' := I4.later (below_alloc w4 (Obj.cells #[.int .i64 a2, .int .i64 b2] 3))
      generalize (Value.slice (some ⟨w4.heap.size, 0, none⟩) 2 2) = v10 at *
      generalize w4.alloc (Obj.cells #[.int .i64 a2, .int .i64 b2] 3) = w10 at *
      simp only [Act.put, List.setIfInBounds_toArray, List.set_cons_zero, List.set_cons_succ]
      refine oneH 5 (by kernel_rfl) rfl (stepC 5 (some 10) rfl rfl 64 _ _ rfl [v4] rfl (fun _ _ => Tryz.call64 _ _) ?_)
      refine (K1.out _ _ I4').mono ?_
      rintro e w' ⟨rfl, hw'⟩
      subst w'
      refine ⟨_, rfl, hHss, fun _ => ?_⟩
      simp only [Act.put, List.setIfInBounds_toArray, List.set_cons_zero, List.set_cons_succ]
      refine oneH 11 (by kernel_rfl) rfl (stepC 11 (some 16) rfl rfl 64 _ _ rfl [v10] rfl (fun _ _ => Tryz.call64 _ _) ?_)
      refine (K2.out _ _ I10).mono ?_
      rintro e w' ⟨rfl, hw'⟩
      subst w'
      refine ⟨_, rfl, hHss, fun _ => ?_⟩
      simp only [Act.put, List.setIfInBounds_toArray, List.set_cons_zero, List.set_cons_succ]
      refine takeV 12 (some 17) (.agg #[.int .i64 r1, .int .i64 r2]) rfl rfl (by kernel_rfl) (by kernel_rfl) (by kernel_rfl) (fun _ _ _ h => h) rfl (fun wx hx => by go_simp) hHss ?_
      simp only [Act.put, List.setIfInBounds_toArray, List.set_cons_zero, List.set_cons_succ]
      obtain ⟨rr, hrr⟩ := hHss.2.2
      have d0 := hrr.c0; have d1 := hrr.c1; have df := hrr.fr
      refine oneH 13 (by kernel_rfl) rfl (stepU 13 _ rfl rfl (by go_simp) (hHss.put (r1, r2)) (fun hF => ?_))
      refine wpAnyH_done (by kernel_rfl) ?_ _
      have HF := show Hid (S2 _ _ (r1, r2) ∧ Below w.heap.size w _) from ⟨hrr.set (r1, r2), hF.2.1⟩
      generalize ((World.setCell _ _ _).setCell _ _) = wf at *
      clear d0 d1 df hrr hF
      go_wp2
      refine bodyPost_ret (results_cell1 rfl _ _ (w.heap.size + 1 + 1) _ _ _ _ rfl HF.out.1 Tryz.underlying80 rfl (by kernel_rfl)) rfl ?_
      exact ⟨rfl, HF.out.2⟩
  · have I10 := isL2 w0.drew a2 b2
    generalize (Value.slice (some ⟨w0.drew.heap.size, 0, none⟩) 2 2) = v10 at *
    generalize w0.drew.alloc (Obj.cells #[.int .i64 a2, .int .i64 b2] 3) = w10 at *
    clear hH
    simp only [Act.put, List.setIfInBounds_toArray, List.set_cons_zero, List.set_cons_succ]
    refine oneH 4 (by kernel_rfl) rfl (stepW 4 (some 9) (.slice (some ⟨(w10).heap.size, 0, none⟩) 2 2) ((w10).alloc (Obj.cells #[.int .i64 a1, .int .i64 b1] 3)) rfl rfl (by go_simp) (hHs.later (below_alloc _ _)) (fun hHss => ?_))
    have I4 := isL2 w10 a1 b1
    have I10' := I10.later (below_alloc w10 (Obj.cells #[.int .i64 a1, .int .i64 b1] 3))
    generalize (Value.slice (some ⟨w10.heap.size, 0, none⟩) 2 2) = v4 at *
    generalize w10.alloc (Obj.cells #[.int .i64 a1, .int .i64 b1] 3) = w4 at *
    simp only [Act.put, List.setIfInBounds_toArray, List.set_cons_zero, List.set_cons_succ]
    refine oneH 5 (by kernel_rfl) rfl (stepC 5 (some 10) rfl rfl 64 _ _ rfl [v4] rfl (fun _ _ => Tryz.call64 _ _) ?_)
    refine (K1.out _ _ I4).mono ?_
    rintro e w' ⟨rfl, hw'⟩
    subst w'
    refine ⟨_, rfl, hHss, fun _ => ?_⟩
    simp only [Act.put, List.setIfInBounds_toArray, List.set_cons_zero, List.set_cons_succ]
    refine oneH 11 (by kernel_rfl) rfl (stepC 11 (some 16) rfl rfl 64 _ _ rfl [v10] rfl (fun _ _ => Tryz.call64 _ _) ?_)
    refine (K2.out _ _ I10').mono ?_
    rintro e w' ⟨rfl, hw'⟩
    subst w'
    refine ⟨_, rfl, hHss, fun _ => ?_⟩
    simp only [Act.put, List.setIfInBounds_toArray, List.set_cons_zero, List.set_cons_succ]
    refine takeV 12 (some 17) (.agg #[.int .i64 r1, .int .i64 r2]) rfl rfl (by kernel_rfl) (by kernel_rfl) (by kernel_rfl) (fun _ _ _ h => h) rfl (fun wx hx => by go_simp) hHss ?_
    simp only [Act.put, List.setIfInBounds_toArray, List.set_cons_zero, List.set_cons_succ]
    obtain ⟨rr, hrr⟩ := hHss.2.2
    have d0 := hrr.c0; have d1 := hrr.c1; have df := hrr.fr
    refine oneH 13 (by kernel_rfl) rfl (stepU 13 _ rfl rfl (by go_simp) (hHss.put (r1, r2)) (fun hF => ?_))
    refine wpAnyH_done (by kernel_rfl) ?_ _
    have HF := show Hid (S2 _ _ (r1, r2) ∧ Below w.heap.size w _) from ⟨hrr.set (r1, r2), hF.2.1⟩
    generalize ((World.setCell _ _ _).setCell _ _) = wf at *
    clear d0 d1 df hrr hF
    go_wp2
    refine bodyPost_ret (results_cell1 rfl _ _ (w.heap.size + 1 + 1) _ _ _ _ rfl HF.out.1 Tryz.underlying80 rfl (by kernel_rfl)) rfl ?_
    exact ⟨rfl, HF.out.2⟩
end Go.Proofs.YthdcppkohalkmaaGreat

/-
  The reader's small calls: peek, counts, step, refuse, at, sign, end. For every list of tokens. No other condition.
-/
import Derived.Test.YtcidldgenogdkaaGreatDoorSKit
namespace Go.Proofs.YtcidldgenogdkaaGreatDoor
open Go.RowKit Go.Maps
open Fm (Nd)
open Sx (Tn T)

/-- A reader and its tokens. -/
structure RS (w : World) (p b g cap : Nat) (ts : List Tn) (i n d : Nat) : Prop where
  rd : Rdr w p b g cap ts.length i n d
  tk : TsAt w g cap ts
theorem RS.gp {w : World} {p b g cap : Nat} {ts : List Tn} {i n d : Nat} (h : RS w p b g cap ts i n d) : g ≠ p := by
  rintro rfl
  obtain ⟨cur, hh, _⟩ := h.tk
  have h2 := h.rd
  unfold Rdr at h2
  rw [h2] at hh
  simp at hh
theorem RS.glt {w : World} {p b g cap : Nat} {ts : List Tn} {i n d : Nat} (h : RS w p b g cap ts i n d) : g < w.heap.size := by
  obtain ⟨cur, hh, _⟩ := h.tk
  exact lt_of_block hh
theorem RS.later {w w' : World} {p b g cap : Nat} {ts : List Tn} {i n d : Nat} (h : RS w p b g cap ts i n d) (hb : Below w.heap.size w w') : RS w' p b g cap ts i n d :=
  ⟨h.rd.later hb, h.tk.keep (hb.block _ h.glt)⟩
theorem RS.s2 {w : World} {p b g cap : Nat} {ts : List Tn} {i n d : Nat} (h : RS w p b g cap ts i n d) (x : Nat) : RS (w.setCell ⟨p, 2, none⟩ (.int .i64 (x : Int))) p b g cap ts x n d :=
  ⟨h.rd.s2 x, h.tk.keep (Below.heap_setCell _ _ _ _ h.gp)⟩
theorem RS.s3 {w : World} {p b g cap : Nat} {ts : List Tn} {i n d : Nat} (h : RS w p b g cap ts i n d) (x : Nat) : RS (w.setCell ⟨p, 3, none⟩ (.int .i64 (x : Int))) p b g cap ts i x d :=
  ⟨h.rd.s3 x, h.tk.keep (Below.heap_setCell _ _ _ _ h.gp)⟩
theorem RS.s4 {w : World} {p b g cap : Nat} {ts : List Tn} {i n d : Nat} (h : RS w p b g cap ts i n d) (x : Nat) : RS (w.setCell ⟨p, 4, none⟩ (.int .i64 (x : Int))) p b g cap ts i n x :=
  ⟨h.rd.s4 x, h.tk.keep (Below.heap_setCell _ _ _ _ h.gp)⟩
/-- A variable of six cells (a token) at block g. -/
def T6' (w : World) (g : Nat) (a0 a1 a2 a3 a4 a5 : Value) : Prop := w.heap[g]? = some (.cells #[a0, a1, a2, a3, a4, a5] 45 (0, 0))
section
variable {w w' : World} {g : Nat} {a0 a1 a2 a3 a4 a5 : Value}
theorem T6'.c0 (h : T6' w g a0 a1 a2 a3 a4 a5) : w.cell? ⟨g, 0, none⟩ = some a0 := by rw [cell_of_row w g 0 _ _ _ h]; rfl
theorem T6'.c1 (h : T6' w g a0 a1 a2 a3 a4 a5) : w.cell? ⟨g, 1, none⟩ = some a1 := by rw [cell_of_row w g 1 _ _ _ h]; rfl
theorem T6'.c2 (h : T6' w g a0 a1 a2 a3 a4 a5) : w.cell? ⟨g, 2, none⟩ = some a2 := by rw [cell_of_row w g 2 _ _ _ h]; rfl
theorem T6'.c3 (h : T6' w g a0 a1 a2 a3 a4 a5) : w.cell? ⟨g, 3, none⟩ = some a3 := by rw [cell_of_row w g 3 _ _ _ h]; rfl
theorem T6'.c4 (h : T6' w g a0 a1 a2 a3 a4 a5) : w.cell? ⟨g, 4, none⟩ = some a4 := by rw [cell_of_row w g 4 _ _ _ h]; rfl
theorem T6'.c5 (h : T6' w g a0 a1 a2 a3 a4 a5) : w.cell? ⟨g, 5, none⟩ = some a5 := by rw [cell_of_row w g 5 _ _ _ h]; rfl
theorem T6'.fr (h : T6' w g a0 a1 a2 a3 a4 a5) (j : Nat) : w.frozen? ⟨g, j, none⟩ = false := frozen_of_row w g j _ _ h
theorem T6'.drewN (h : T6' w g a0 a1 a2 a3 a4 a5) (n : Nat) : T6' (w.drewN n) g a0 a1 a2 a3 a4 a5 := h
theorem T6'.s6 (h : T6' w g a0 a1 a2 a3 a4 a5) (x0 x1 x2 x3 x4 x5 : Value) : T6' ((((((w.setCell ⟨g, 0, none⟩ x0).setCell ⟨g, 1, none⟩ x1).setCell ⟨g, 2, none⟩ x2).setCell ⟨g, 3, none⟩ x3).setCell ⟨g, 4, none⟩ x4).setCell ⟨g, 5, none⟩ x5) g x0 x1 x2 x3 x4 x5 :=
  heap_setCell_same _ g 5 _ _ _ (heap_setCell_same _ g 4 _ _ _ (heap_setCell_same _ g 3 _ _ _ (heap_setCell_same _ g 2 _ _ _ (heap_setCell_same _ g 1 _ _ _ (heap_setCell_same w g 0 _ _ _ h)))))
end
theorem below_set6' {B : Nat} {a w : World} (h : Below B a w) {g : Nat} (hg : B ≤ g) (x0 x1 x2 x3 x4 x5 : Value) : Below B a ((((((w.setCell ⟨g, 0, none⟩ x0).setCell ⟨g, 1, none⟩ x1).setCell ⟨g, 2, none⟩ x2).setCell ⟨g, 3, none⟩ x3).setCell ⟨g, 4, none⟩ x4).setCell ⟨g, 5, none⟩ x5) := (((((h.setCell hg x0).setCell hg x1).setCell hg x2).setCell hg x3).setCell hg x4).setCell hg x5
theorem bdrewN {B : Nat} {a w : World} (h : Below B a w) (n : Nat) : Below B a (w.drewN n) := ⟨h.os, h.tape, h.output, h.size, h.block⟩
theorem tk_get {ts : List Tn} {i : Nat} (h : i < ts.length) : Sx.tk ts i = ts[i] := by
  unfold Sx.tk
  rw [List.getD_eq_getElem?_getD, List.getElem?_eq_getElem h]
  rfl
theorem tk_out {ts : List Tn} {i : Nat} (h : ts.length ≤ i) : Sx.tk ts i = Sx.tz := by
  unfold Sx.tk
  rw [List.getD_eq_getElem?_getD, List.getElem?_eq_none h]
  rfl
section
variable (w : World) {p b g cap : Nat} {ts : List Tn} {i n d : Nat}
set_option maxHeartbeats 1000000 in
theorem peek_any (h : RS w p b g cap ts i n d) :
    Calls Tryz.prog 56 #[.pointer (some ⟨p, 0, none⟩)] w fun e w' => e = .returned (tnV (Sx.tk ts i)) ∧ Below w.heap.size w w' := by
  obtain ⟨w0, hw0⟩ : ∃ w0, w0 = w.alloc (Obj.cells #[.int .i64 0, .string ⟨#[]⟩, .int .i64 0, .int .i64 0, .int .i64 0, .int .i64 0] 45) := ⟨_, rfl⟩
  have HB := show Hid (Below w.heap.size w w0) from by rw [hw0]; exact below_alloc w _
  have HR := show Hid (T6' w0 w.heap.size (.int .i64 0) (.string ⟨#[]⟩) (.int .i64 0) (.int .i64 0) (.int .i64 0) (.int .i64 0)) from by rw [hw0]; exact heap_alloc_new w _
  have h0 := h.later HB.out
  have c1 := h0.rd.c1
  have c2 := h0.rd.c2
  have f0 := HR.out.fr
  have e0 := HR.out.c0; have e1 := HR.out.c1; have e2 := HR.out.c2; have e3 := HR.out.c3; have e4 := HR.out.c4; have e5 := HR.out.c5
  by_cases hi : i < ts.length
  · have hlt : (i : Int) < (ts.length : Int) := by omega
    have hcell := h0.tk.cell hi
    have d0 := hcell 0 (by omega)
    have d1 := hcell 1 (by omega)
    have d2 := hcell 2 (by omega)
    have d3 := hcell 3 (by omega)
    have d4 := hcell 4 (by omega)
    have d5 := hcell 5 (by omega)
    rw [tk_get hi]
    generalize ts[i] = t at *
    obtain ⟨tk, tx, tn, tl, tc, to⟩ := t
    simp only [tnC, tnV, Nat.add_zero, List.getElem?_cons_zero, List.getElem?_cons_succ] at *
    clear h h0 hcell
    go_enter Tryz.func56, Tryz.ntmps56
    go_wp2_with fail
    rw [← hw0]
    clear hw0
    go_quiet (fail)
    go_wp2_with fail
    go_region
    go_wp2_with fail
    refine bodyPost_ret (results_cell_row rfl _ _ w.heap.size _ _ _ _ rfl ((HR.out.drewN (nq + 1)).s6 (.int .i64 tk) (.string tx) (.int .i64 tn) (.int .i64 tl) (.int .i64 tc) (.int .i64 to)) Tryz.underlying45 rfl (by kernel_rfl)) rfl ?_
    exact ⟨rfl, below_set6' (bdrewN HB.out (nq + 1)) (Nat.le_refl _) _ _ _ _ _ _⟩
  · rw [tk_out (by omega)]
    have hlt : ¬ (i : Int) < (ts.length : Int) := by omega
    clear h h0
    go_enter Tryz.func56, Tryz.ntmps56
    go_wp2_with fail
    rw [← hw0]
    clear hw0
    go_quiet (fail)
    go_wp2_with fail
    refine bodyPost_ret (results_cell_row rfl _ _ w.heap.size _ _ _ _ rfl ((HR.out.drewN nq).s6 (.int .i64 0) (.string ⟨#[]⟩) (.int .i64 0) (.int .i64 0) (.int .i64 0) (.int .i64 0)) Tryz.underlying45 rfl (by kernel_rfl)) rfl ?_
    exact ⟨rfl, below_set6' (bdrewN HB.out nq) (Nat.le_refl _) _ _ _ _ _ _⟩
set_option maxHeartbeats 1000000 in
theorem counts_any (t : Tn) :
    Calls Tryz.prog 36 #[tnV t] w fun e w' => e = .returned (.bool (Sx.counts t)) ∧ Below w.heap.size w w' := by
  obtain ⟨tk, tx, tn, tl, tc, to⟩ := t
  unfold tnV
  go_enter Tryz.func36, Tryz.ntmps36
  go_wp2_with fail
  all_goals first | (exfalso; simp_all; done) | (go_ret; refine ⟨ret_bool ?_, below_alloc _ _⟩; simp only [Sx.counts, ← ByteArray.toList_eq]; simp_all)
/-- What step leaves: the next token, how many are counted. -/
def Stepped (w : World) (p b g cap : Nat) (ts : List Tn) (i n d : Nat) (e0 : Ending) (e : Ending) (w' : World) : Prop :=
  (512 < Sx.up ts i n ∧ e = fltP 40 (Sx.tk ts i) ∧ KpP p w w') ∨ (Sx.up ts i n ≤ 512 ∧ e = e0 ∧ RS w' p b g cap ts (i + 1) (Sx.up ts i n) d ∧ KpP p w w')
set_option maxRecDepth 100000 in
set_option maxHeartbeats 2000000 in
theorem step_any (h : RS w p b g cap ts i n d) (hn : n ≤ 512) (hi : i ≤ ts.length) :
    Calls Tryz.prog 90 #[.pointer (some ⟨p, 0, none⟩)] w fun e w' => Stepped w p b g cap ts i n d (.returned (.tuple #[])) e w' := by
  have hcl : ts.length ≤ 4611686018427387904 := by obtain ⟨cur, _, _, _, _, h1⟩ := h.tk; exact h1
  have KP := show Hid (Calls Tryz.prog 56 #[.pointer (some ⟨p, 0, none⟩)] w fun e w' => e = .returned (tnV (Sx.tk ts i)) ∧ Below w.heap.size w w') from peek_any w h
  have KC := show Hid (∀ w, Calls Tryz.prog 36 #[tnV (Sx.tk ts i)] w fun e w' => e = .returned (.bool (Sx.counts (Sx.tk ts i))) ∧ Below w.heap.size w w') from fun w => counts_any w _
  have HU := show Hid (Sx.up ts i n = if Sx.counts (Sx.tk ts i) then n + 1 else n) from rfl
  have HS := show Hid (RS w p b g cap ts i n d) from h
  have HX := show Hid (∀ e w', (512 < Sx.up ts i n ∧ e = fltP 40 (Sx.tk ts i) ∧ KpP p w w') ∨ (Sx.up ts i n ≤ 512 ∧ e = .returned (.tuple #[]) ∧ RS w' p b g cap ts (i + 1) (Sx.up ts i n) d ∧ KpP p w w') → Stepped w p b g cap ts i n d (.returned (.tuple #[])) e w') from fun _ _ h => h
  have hcl' : i ≤ 4611686018427387904 := by omega
  generalize Stepped w p b g cap ts i n d (.returned (.tuple #[])) = Q at *
  generalize Sx.up ts i n = u at *
  generalize Sx.counts (Sx.tk ts i) = cc at *
  generalize Sx.tk ts i = t at *
  obtain ⟨tk, tx, tn, tl, tc, to⟩ := t
  unfold tnV at *
  clear h hcl hi
  go_enter Tryz.func90, Tryz.ntmps90
  go_wp2_with fail
  refine KP.out.mono ?_
  rintro e w1 ⟨rfl, hb1⟩
  have HB1 := show Hid (Below w.heap.size w w1) from hb1
  have HS1 := show Hid (RS w1 p b g cap ts i n d) from HS.out.later hb1
  clear hb1 KP
  go_wp2_with fail
  refine (KC.out _).mono ?_
  rintro e w2 ⟨rfl, hb2⟩
  have hlt1 : w1.heap.size < w2.heap.size := by have := hb2.size; simp at this; omega
  have HB2 := show Hid (Below w.heap.size w w2) from HB1.out.trans ((below_alloc w1 _).trans (hb2.mono (by simp)) |>.mono HB1.out.size)
  have HS2 := show Hid (RS w2 p b g cap ts i n d) from (HS1.out.later (below_alloc w1 _)).later hb2
  have HT := show Hid (T6' w2 w1.heap.size (.int .i64 tk) (.string tx) (.int .i64 tn) (.int .i64 tl) (.int .i64 tc) (.int .i64 to)) from (hb2.block _ (by simp)).trans (heap_alloc_new _ _)
  have HB1s := show Hid (w.heap.size ≤ w1.heap.size) from HB1.out.size
  clear hb2 KC HB1 HS1
  have c2 := HS2.out.rd.c2; have c3 := HS2.out.rd.c3; have hf := HS2.out.rd.fr
  have t3 := HT.out.c3; have t4 := HT.out.c4; have t5 := HT.out.c5
  have hpn : ¬ w1.heap.size = p := by have := HS.out.rd.lt; have := HB1s.out; omega
  have hpn2 : ¬ p = w1.heap.size := fun e => hpn e.symm
  have HKP := show Hid (KpP p w w2) from KpP.of_below HB2.out
  cases cc
  · have hu : u = n := HU.out
    subst hu
    have hle : (u : Int) ≤ 512 := by omega
    have hle2 : ¬ 512 < (u : Int) := by omega
    clear HU hn
    go_wp2_with fail
    go_end0
    exact HX.out _ _ (Or.inr ⟨by omega, rfl, HS2.out.s2 (i + 1), HKP.out.set _ _⟩)
  · have hu : u = n + 1 := HU.out
    subst hu
    by_cases hgt : 512 < n + 1
    · have HGT := show Hid _ from hgt
      have hle : 512 < ((n : Int) + 1) := by omega
      clear HU hgt
      go_wp2_with fail
      exact ⟨rfl, HX.out _ _ (Or.inl ⟨HGT.out, rfl, HKP.out.set _ _⟩)⟩
    · have HGT := show Hid _ from hgt
      have hle : ((n : Int) + 1) ≤ 512 := by omega
      have hle2 : ¬ 512 < ((n : Int) + 1) := by omega
      clear HU hgt hn
      go_wp2_with fail
      go_end0
      exact HX.out _ _ (Or.inr ⟨by have := HGT.out; omega, rfl, (HS2.out.s3 (n + 1)).s2 (i + 1), (HKP.out.set _ _).set _ _⟩)
set_option maxRecDepth 100000 in
set_option maxHeartbeats 1000000 in
theorem refuse_any (h : RS w p b g cap ts i n d) (hn : n ≤ 512) (hi : i ≤ ts.length) :
    Calls Tryz.prog 57 #[.pointer (some ⟨p, 0, none⟩)] w fun e w' => e = fltP (if 512 < Sx.up ts i n then 40 else 41) (Sx.tk ts i) ∧ KpP p w w' := by
  have KP := show Hid (Calls Tryz.prog 56 #[.pointer (some ⟨p, 0, none⟩)] w fun e w' => e = .returned (tnV (Sx.tk ts i)) ∧ Below w.heap.size w w') from peek_any w h
  have KS := show Hid (∀ w1, Below w.heap.size w w1 → Calls Tryz.prog 90 #[.pointer (some ⟨p, 0, none⟩)] w1 fun e w' => Stepped w1 p b g cap ts i n d (.returned (.tuple #[])) e w') from fun w1 hb => step_any w1 (h.later hb) hn hi
  have HS := show Hid (RS w p b g cap ts i n d) from h
  generalize ht : Sx.tk ts i = t at *
  have HTK := show Hid (Sx.tk ts i = t) from ht
  clear ht
  obtain ⟨tk, tx, tn, tl, tc, to⟩ := t
  unfold tnV at *
  generalize hec : (if 512 < Sx.up ts i n then (40 : Int) else 41) = ec at *
  have HEC := show Hid ((if 512 < Sx.up ts i n then (40 : Int) else 41) = ec) from hec
  clear h hn hi hec
  go_enter Tryz.func57, Tryz.ntmps57
  go_wp2_with fail
  refine KP.out.mono ?_
  rintro e w1 ⟨rfl, hb1⟩
  have HB1 := show Hid (Below w.heap.size w w1) from hb1
  clear hb1 KP
  go_wp2_with fail
  have HBA := show Hid (Below w.heap.size w (w1.alloc (Obj.cells #[.int .i64 tk, .string tx, .int .i64 tn, .int .i64 tl, .int .i64 tc, .int .i64 to] 45))) from HB1.out.alloc HB1.out.size _
  have HTA := show Hid (T6' (w1.alloc (Obj.cells #[.int .i64 tk, .string tx, .int .i64 tn, .int .i64 tl, .int .i64 tc, .int .i64 to] 45)) w1.heap.size (.int .i64 tk) (.string tx) (.int .i64 tn) (.int .i64 tl) (.int .i64 tc) (.int .i64 to)) from heap_alloc_new _ _
  have hp1 : ¬ w1.heap.size = p := by have := HS.out.rd.lt; have := HB1.out.size; omega
  refine (KS.out _ HBA.out).mono ?_
  rintro e w2 (⟨hu, rfl, hk⟩ | ⟨hu, rfl, hr, hk⟩)
  · have HH := show Hid _ from (⟨hu, hk⟩ : _ ∧ _)
    clear hu hk KS
    rw [HTK.out]
    unfold fltP
    go_wp2_with fail
    refine ⟨rfl, ?_, (KpP.of_below HBA.out).trans HH.out.2⟩
    rw [← HEC.out, if_pos HH.out.1]
    rfl
  · have HH := show Hid _ from (⟨hu, hk⟩ : _ ∧ _)
    have HT2 := show Hid (T6' w2 w1.heap.size (.int .i64 tk) (.string tx) (.int .i64 tn) (.int .i64 tl) (.int .i64 tc) (.int .i64 to)) from (hk.block _ (by simp) hp1).trans HTA.out
    have t3 := HT2.out.c3; have t4 := HT2.out.c4; have t5 := HT2.out.c5
    clear hu hk hr KS
    go_wp2_with fail
    refine ⟨rfl, ?_, (KpP.of_below HBA.out).trans HH.out.2⟩
    rw [← HEC.out, if_neg (by have := HH.out.1; omega)]
    rfl
set_option maxRecDepth 100000 in
set_option maxHeartbeats 1000000 in
theorem at_any (h : RS w p b g cap ts i n d) (x : ByteArray) :
    Calls Tryz.prog 112 #[.pointer (some ⟨p, 0, none⟩), .string x] w fun e w' => e = .returned (.bool (Sx.sgn (Sx.tk ts i) x.data.toList)) ∧ Below w.heap.size w w' := by
  have KP := show Hid (Calls Tryz.prog 56 #[.pointer (some ⟨p, 0, none⟩)] w fun e w' => e = .returned (tnV (Sx.tk ts i)) ∧ Below w.heap.size w w') from peek_any w h
  generalize Sx.tk ts i = t at *
  obtain ⟨tk, tx, tn, tl, tc, to⟩ := t
  unfold tnV at *
  clear h
  go_enter Tryz.func112, Tryz.ntmps112
  go_wp2_with fail
  refine KP.out.mono ?_
  rintro e w1 ⟨rfl, hb1⟩
  have HB1 := show Hid (Below w.heap.size w w1) from hb1
  clear hb1 KP
  go_wp2_with fail
  all_goals (go_ret; refine ⟨ret_bool ?_, HB1.out.alloc HB1.out.size _⟩; simp only [Sx.sgn, ← ByteArray.toList_eq]; simp_all)
/-- What sign answers. -/
def Signed (w : World) (p b g cap : Nat) (ts : List Tn) (i n d : Nat) (x : List UInt8) (e : Ending) (w' : World) : Prop :=
  (Sx.sgn (Sx.tk ts i) x = false ∧ e = .returned (.bool false) ∧ Below w.heap.size w w') ∨ (Sx.sgn (Sx.tk ts i) x = true ∧ Stepped w p b g cap ts i n d (.returned (.bool true)) e w')
set_option maxRecDepth 100000 in
set_option maxHeartbeats 1000000 in
theorem sign_any (h : RS w p b g cap ts i n d) (hn : n ≤ 512) (hi : i ≤ ts.length) (x : ByteArray) :
    Calls Tryz.prog 87 #[.pointer (some ⟨p, 0, none⟩), .string x] w fun e w' => Signed w p b g cap ts i n d x.data.toList e w' := by
  have HX := show Hid (∀ e w', (Sx.sgn (Sx.tk ts i) x.data.toList = false ∧ e = .returned (.bool false) ∧ Below w.heap.size w w') ∨ (Sx.sgn (Sx.tk ts i) x.data.toList = true ∧ Stepped w p b g cap ts i n d (.returned (.bool true)) e w') → Signed w p b g cap ts i n d x.data.toList e w') from fun _ _ h => h
  generalize Signed w p b g cap ts i n d x.data.toList = Q at *
  have KA := show Hid (Calls Tryz.prog 112 #[.pointer (some ⟨p, 0, none⟩), .string x] w fun e w' => e = .returned (.bool (Sx.sgn (Sx.tk ts i) x.data.toList)) ∧ Below w.heap.size w w') from at_any w h x
  have KS := show Hid (∀ w1, Below w.heap.size w w1 → Calls Tryz.prog 90 #[.pointer (some ⟨p, 0, none⟩)] w1 fun e w' => Stepped w1 p b g cap ts i n d (.returned (.tuple #[])) e w') from fun w1 hb => step_any w1 (h.later hb) hn hi
  clear h hn hi
  generalize Sx.sgn (Sx.tk ts i) x.data.toList = q at *
  go_enter Tryz.func87, Tryz.ntmps87
  go_wp2_with fail
  refine KA.out.mono ?_
  rintro e w1 ⟨rfl, hb1⟩
  have HB1 := show Hid (Below w.heap.size w w1) from hb1
  clear hb1 KA
  cases q
  · go_wp2_with fail
    exact HX.out _ _ (Or.inl ⟨by simp, rfl, HB1.out⟩)
  · go_wp2_with fail
    refine (KS.out _ HB1.out).mono ?_
    rintro e w2 (⟨hu, rfl, hk⟩ | ⟨hu, rfl, hr, hk⟩)
    · have HH := show Hid _ from (⟨hu, hk⟩ : _ ∧ _)
      clear hu hk KS
      unfold fltP
      go_wp2_with fail
      exact ⟨rfl, HX.out _ _ (Or.inr ⟨by simp, Or.inl ⟨HH.out.1, rfl, (KpP.of_below HB1.out).trans HH.out.2⟩⟩)⟩
    · have HH := show Hid _ from (⟨hu, hr, hk⟩ : _ ∧ _ ∧ _)
      clear hu hk hr KS
      go_wp2_with fail
      exact HX.out _ _ (Or.inr ⟨by simp, Or.inr ⟨HH.out.1, rfl, HH.out.2.1, (KpP.of_below HB1.out).trans HH.out.2.2⟩⟩)
theorem field_tok0 (w : World) (k : Int) (s : ByteArray) (n l c o : Int) : (Instr.field 45 (.agg #[.int .i64 k, .string s, .int .i64 n, .int .i64 l, .int .i64 c, .int .i64 o]) 0).run Tryz.prog w = .ok (.int .i64 k) w := by kernel_rfl
theorem field_tok1 (w : World) (k : Int) (s : ByteArray) (n l c o : Int) : (Instr.field 45 (.agg #[.int .i64 k, .string s, .int .i64 n, .int .i64 l, .int .i64 c, .int .i64 o]) 1).run Tryz.prog w = .ok (.string s) w := by kernel_rfl
/-- What end answers. -/
def Ended (w : World) (p : Nat) (ts : List Tn) (i n : Nat) (e : Ending) (w' : World) : Prop :=
  ((Sx.tk ts i).k = 0 ∧ e = .returned (.tuple #[]) ∧ Below w.heap.size w w') ∨ ((Sx.tk ts i).k ≠ 0 ∧ e = fltP (if 512 < Sx.up ts i n then 40 else 41) (Sx.tk ts i) ∧ KpP p w w')
set_option maxRecDepth 100000 in
set_option maxHeartbeats 1000000 in
theorem end_any (h : RS w p b g cap ts i n d) (hn : n ≤ 512) (hi : i ≤ ts.length) :
    Calls Tryz.prog 29 #[.pointer (some ⟨p, 0, none⟩)] w fun e w' => Ended w p ts i n e w' := by
  have HX := show Hid (∀ e w', ((Sx.tk ts i).k = 0 ∧ e = .returned (.tuple #[]) ∧ Below w.heap.size w w') ∨ ((Sx.tk ts i).k ≠ 0 ∧ e = fltP (if 512 < Sx.up ts i n then 40 else 41) (Sx.tk ts i) ∧ KpP p w w') → Ended w p ts i n e w') from fun _ _ h => h
  generalize Ended w p ts i n = Q at *
  have hfd := field_tok0
  have KP := show Hid (Calls Tryz.prog 56 #[.pointer (some ⟨p, 0, none⟩)] w fun e w' => e = .returned (tnV (Sx.tk ts i)) ∧ Below w.heap.size w w') from peek_any w h
  have KR := show Hid (∀ w1, Below w.heap.size w w1 → Calls Tryz.prog 57 #[.pointer (some ⟨p, 0, none⟩)] w1 fun e w' => e = fltP (if 512 < Sx.up ts i n then 40 else 41) (Sx.tk ts i) ∧ KpP p w1 w') from fun w1 hb => refuse_any w1 (h.later hb) hn hi
  clear h hn hi
  generalize (if 512 < Sx.up ts i n then (40 : Int) else 41) = ec at *
  generalize Sx.tk ts i = t at *
  obtain ⟨tk, tx, tn, tl, tc, to⟩ := t
  unfold tnV at *
  go_enter Tryz.func29, Tryz.ntmps29
  go_wp2_with fail
  refine KP.out.mono ?_
  rintro e w1 ⟨rfl, hb1⟩
  have HB1 := show Hid (Below w.heap.size w w1) from hb1
  clear hb1 KP
  by_cases hk : tk = 0
  · subst hk
    go_wp2_with fail
    go_end0
    exact HX.out _ _ (Or.inl ⟨by simp, rfl, HB1.out⟩)
  · have hk2 : (tk != 0) = true := by simp [hk]
    have HK := show Hid _ from hk
    clear hk
    go_wp2_with fail
    refine (KR.out _ HB1.out).mono ?_
    rintro e w2 ⟨rfl, hkp⟩
    have HKP := show Hid _ from hkp
    clear hkp KR
    unfold fltP
    go_wp2_with fail
    exact ⟨rfl, HX.out _ _ (Or.inr ⟨HK.out, rfl, (KpP.of_below HB1.out).trans HKP.out⟩)⟩
end
end Go.Proofs.YtcidldgenogdkaaGreatDoor

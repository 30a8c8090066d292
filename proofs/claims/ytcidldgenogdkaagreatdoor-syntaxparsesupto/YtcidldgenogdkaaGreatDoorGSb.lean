/-
  The reader's small calls: peek, counts, step, refuse, at, sign, end. For every list of tokens. No other condition.
-/
import Derived.Test.YtcidldgenogdkaaGreatDoorGSa
import Derived.RegionDies
import Derived.Deep.RegionHeld3
namespace Go.Proofs.YtcidldgenogdkaaGreatDoor
open Go.RowKit Go.Maps
open Fm (Nd)
open Sx (Tn T)

/-- A reader and its tokens. -/
structure RS (w : World) (p b g cap : Nat) (ts : List Tn) (i n d : Nat) : Prop where
  rd : Rdr w p b g cap ts.length i n d
  tk : TsAt w g cap ts
theorem RS.gp {w : World} {p b g cap : Nat} {ts : List Tn} {i n d : Nat} (h : RS w p b g cap ts i n d) : g ≠ p := by
  rintro rfl
  obtain ⟨cur, hh, _⟩ := h.tk
  have h2 := h.rd
  unfold Rdr at h2
  rw [h2] at hh
  simp at hh
theorem RS.glt {w : World} {p b g cap : Nat} {ts : List Tn} {i n d : Nat} (h : RS w p b g cap ts i n d) : g < w.heap.size := by
  obtain ⟨cur, hh, _⟩ := h.tk
  exact lt_of_block hh
theorem RS.later {w w' : World} {p b g cap : Nat} {ts : List Tn} {i n d : Nat} (h : RS w p b g cap ts i n d) (hb : Below w.heap.size w w') : RS w' p b g cap ts i n d :=
  ⟨h.rd.later hb, h.tk.keep (hb.block _ h.glt)⟩
theorem RS.s2 {w : World} {p b g cap : Nat} {ts : List Tn} {i n d : Nat} (h : RS w p b g cap ts i n d) (x : Nat) : RS (w.setCell ⟨p, 2, none⟩ (.int .i64 (x : Int))) p b g cap ts x n d :=
  ⟨h.rd.s2 x, h.tk.keep (Below.heap_setCell _ _ _ _ h.gp)⟩
theorem RS.s3 {w : World} {p b g cap : Nat} {ts : List Tn} {i n d : Nat} (h : RS w p b g cap ts i n d) (x : Nat) : RS (w.setCell ⟨p, 3, none⟩ (.int .i64 (x : Int))) p b g cap ts i x d :=
  ⟨h.rd.s3 x, h.tk.keep (Below.heap_setCell _ _ _ _ h.gp)⟩
theorem RS.s4 {w : World} {p b g cap : Nat} {ts : List Tn} {i n d : Nat} (h : RS w p b g cap ts i n d) (x : Nat) : RS (w.setCell ⟨p, 4, none⟩ (.int .i64 (x : Int))) p b g cap ts i n x :=
  ⟨h.rd.s4 x, h.tk.keep (Below.heap_setCell _ _ _ _ h.gp)⟩
/-- A variable of six cells (a token) at block g. -/
def T6' (w : World) (g : Nat) (a0 a1 a2 a3 a4 a5 : Value) : Prop := w.heap[g]? = some (.cells #[a0, a1, a2, a3, a4, a5] 45 (0, 0))
section
variable {w w' : World} {g : Nat} {a0 a1 a2 a3 a4 a5 : Value}
theorem T6'.c0 (h : T6' w g a0 a1 a2 a3 a4 a5) : w.cell? ⟨g, 0, none⟩ = some a0 := by rw [cell_of_row w g 0 _ _ _ h]; rfl
theorem T6'.c1 (h : T6' w g a0 a1 a2 a3 a4 a5) : w.cell? ⟨g, 1, none⟩ = some a1 := by rw [cell_of_row w g 1 _ _ _ h]; rfl
theorem T6'.c2 (h : T6' w g a0 a1 a2 a3 a4 a5) : w.cell? ⟨g, 2, none⟩ = some a2 := by rw [cell_of_row w g 2 _ _ _ h]; rfl
theorem T6'.c3 (h : T6' w g a0 a1 a2 a3 a4 a5) : w.cell? ⟨g, 3, none⟩ = some a3 := by rw [cell_of_row w g 3 _ _ _ h]; rfl
theorem T6'.c4 (h : T6' w g a0 a1 a2 a3 a4 a5) : w.cell? ⟨g, 4, none⟩ = some a4 := by rw [cell_of_row w g 4 _ _ _ h]; rfl
theorem T6'.c5 (h : T6' w g a0 a1 a2 a3 a4 a5) : w.cell? ⟨g, 5, none⟩ = some a5 := by rw [cell_of_row w g 5 _ _ _ h]; rfl
theorem T6'.fr (h : T6' w g a0 a1 a2 a3 a4 a5) (j : Nat) : w.frozen? ⟨g, j, none⟩ = false := frozen_of_row w g j _ _ h
theorem T6'.drewN (h : T6' w g a0 a1 a2 a3 a4 a5) (n : Nat) : T6' (w.drewN n) g a0 a1 a2 a3 a4 a5 := h
theorem T6'.s6 (h : T6' w g a0 a1 a2 a3 a4 a5) (x0 x1 x2 x3 x4 x5 : Value) : T6' ((((((w.setCell ⟨g, 0, none⟩ x0).setCell ⟨g, 1, none⟩ x1).setCell ⟨g, 2, none⟩ x2).setCell ⟨g, 3, none⟩ x3).setCell ⟨g, 4, none⟩ x4).setCell ⟨g, 5, none⟩ x5) g x0 x1 x2 x3 x4 x5 :=
  heap_setCell_same _ g 5 _ _ _ (heap_setCell_same _ g 4 _ _ _ (heap_setCell_same _ g 3 _ _ _ (heap_setCell_same _ g 2 _ _ _ (heap_setCell_same _ g 1 _ _ _ (heap_setCell_same w g 0 _ _ _ h)))))
end
theorem below_set6' {B : Nat} {a w : World} (h : Below B a w) {g : Nat} (hg : B ≤ g) (x0 x1 x2 x3 x4 x5 : Value) : Below B a ((((((w.setCell ⟨g, 0, none⟩ x0).setCell ⟨g, 1, none⟩ x1).setCell ⟨g, 2, none⟩ x2).setCell ⟨g, 3, none⟩ x3).setCell ⟨g, 4, none⟩ x4).setCell ⟨g, 5, none⟩ x5) := (((((h.setCell hg x0).setCell hg x1).setCell hg x2).setCell hg x3).setCell hg x4).setCell hg x5
theorem bdrewN {B : Nat} {a w : World} (h : Below B a w) (n : Nat) : Below B a (w.drewN n) := ⟨h.os, h.tape, h.output, h.size, h.block⟩
theorem tk_get {ts : List Tn} {i : Nat} (h : i < ts.length) : Sx.tk ts i = ts[i] := by
  unfold Sx.tk
  rw [List.getD_eq_getElem?_getD, List.getElem?_eq_getElem h]
  rfl
theorem tk_out {ts : List Tn} {i : Nat} (h : ts.length ≤ i) : Sx.tk ts i = Sx.tz := by
  unfold Sx.tk
  rw [List.getD_eq_getElem?_getD, List.getElem?_eq_none h]
  rfl
section
variable (w : World) {p b g cap : Nat} {ts : List Tn} {i n d : Nat}
set_option maxHeartbeats 1000000 in
theorem peek_any (h : RS w p b g cap ts i n d) :
    Calls Tryz.prog 56 #[.pointer (some ⟨p, 0, none⟩)] w fun e w' => e = .returned (tnV (Sx.tk ts i)) ∧ Below w.heap.size w w' := by
  obtain ⟨w0, hw0⟩ : ∃ w0, w0 = w.alloc (Obj.cells #[.int .i64 0, .string ⟨#[]⟩, .int .i64 0, .int .i64 0, .int .i64 0, .int .i64 0] 45) := ⟨_, rfl⟩
  have HB := show Hid (Below w.heap.size w w0) from by rw [hw0]; exact below_alloc w _
  have HR := show Hid (T6' w0 w.heap.size (.int .i64 0) (.string ⟨#[]⟩) (.int .i64 0) (.int .i64 0) (.int .i64 0) (.int .i64 0)) from by rw [hw0]; exact heap_alloc_new w _
  have h0 := h.later HB.out
  have c1 := h0.rd.c1
  have c2 := h0.rd.c2
  have f0 := HR.out.fr
  have e0 := HR.out.c0; have e1 := HR.out.c1; have e2 := HR.out.c2; have e3 := HR.out.c3; have e4 := HR.out.c4; have e5 := HR.out.c5
  by_cases hi : i < ts.length
  · have hlt : (i : Int) < (ts.length : Int) := by omega
    have hcell := h0.tk.cell hi
    have d0 := hcell 0 (by omega)
    have d1 := hcell 1 (by omega)
    have d2 := hcell 2 (by omega)
    have d3 := hcell 3 (by omega)
    have d4 := hcell 4 (by omega)
    have d5 := hcell 5 (by omega)
    rw [tk_get hi]
    generalize ts[i] = t at *
    obtain ⟨tk, tx, tn, tl, tc, to⟩ := t
    simp only [tnC, tnV, Nat.add_zero, List.getElem?_cons_zero, List.getElem?_cons_succ] at *
    clear h h0 hcell
    go_enter Tryz.func56, Tryz.ntmps56
    go_wp2_with fail
    rw [← hw0]
    clear hw0
    go_quiet (fail)
    go_wp2_with fail
    go_region
    go_wp2_with fail
    refine bodyPost_ret (results_cell_row rfl _ _ w.heap.size _ _ _ _ rfl ((HR.out.drewN (nq + 1)).s6 (.int .i64 tk) (.string tx) (.int .i64 tn) (.int .i64 tl) (.int .i64 tc) (.int .i64 to)) Tryz.underlying45 rfl (by kernel_rfl)) rfl ?_
    exact ⟨rfl, below_set6' (bdrewN HB.out (nq + 1)) (Nat.le_refl _) _ _ _ _ _ _⟩
  · rw [tk_out (by omega)]
    have hlt : ¬ (i : Int) < (ts.length : Int) := by omega
    clear h h0
    go_enter Tryz.func56, Tryz.ntmps56
    go_wp2_with fail
    rw [← hw0]
    clear hw0
    go_quiet (fail)
    go_wp2_with fail
    refine bodyPost_ret (results_cell_row rfl _ _ w.heap.size _ _ _ _ rfl ((HR.out.drewN nq).s6 (.int .i64 0) (.string ⟨#[]⟩) (.int .i64 0) (.int .i64 0) (.int .i64 0) (.int .i64 0)) Tryz.underlying45 rfl (by kernel_rfl)) rfl ?_
    exact ⟨rfl, below_set6' (bdrewN HB.out nq) (Nat.le_refl _) _ _ _ _ _ _⟩
set_option maxHeartbeats 1000000 in
theorem counts_any (t : Tn) :
    Calls Tryz.prog 36 #[tnV t] w fun e w' => e = .returned (.bool (Sx.counts t)) ∧ Below w.heap.size w w' := by
  obtain ⟨tk, tx, tn, tl, tc, to⟩ := t
  unfold tnV
  go_enter Tryz.func36, Tryz.ntmps36
  go_wp2_with fail
  all_goals first | (exfalso; simp_all; done) | (go_ret; refine ⟨ret_bool ?_, below_alloc _ _⟩; simp only [Sx.counts, ← ByteArray.toList_eq]; simp_all)
/-- What step leaves: the next token, how many are counted. -/
def Stepped (w : World) (p b g cap : Nat) (ts : List Tn) (i n d : Nat) (e0 : Ending) (e : Ending) (w' : World) : Prop :=
  (512 < Sx.up ts i n ∧ e = fltP 40 (Sx.tk ts i) ∧ KpP p w w') ∨ (Sx.up ts i n ≤ 512 ∧ e = e0 ∧ RS w' p b g cap ts (i + 1) (Sx.up ts i n) d ∧ KpP p w w')
set_option maxRecDepth 100000 in
set_option maxHeartbeats 2000000 in
theorem step_any (h : RS w p b g cap ts i n d) (hn : n ≤ 512) (hi : i ≤ ts.length) :
    Calls Tryz.prog 90 #[.pointer (some ⟨p, 0, none⟩)] w fun e w' => Stepped w p b g cap ts i n d (.returned (.tuple #[])) e w' := by
  have hcl : ts.length ≤ 4611686018427387904 := by obtain ⟨cur, _, _, _, _, h1⟩ := h.tk; exact h1
  have KP := show Hid (Calls Tryz.prog 56 #[.pointer (some ⟨p, 0, none⟩)] w fun e w' => e = .returned (tnV (Sx.tk ts i)) ∧ Below w.heap.size w w') from peek_any w h
  have KC := show Hid (∀ w, Calls Tryz.prog 36 #[tnV (Sx.tk ts i)] w fun e w' => e = .returned (.bool (Sx.counts (Sx.tk ts i))) ∧ Below w.heap.size w w') from fun w => counts_any w _
  have HU := show Hid (Sx.up ts i n = if Sx.counts (Sx.tk ts i) then n + 1 else n) from rfl
  have HS := show Hid (RS w p b g cap ts i n d) from h
  have HX := show Hid (∀ e w', (512 < Sx.up ts i n ∧ e = fltP 40 (Sx.tk ts i) ∧ KpP p w w') ∨ (Sx.up ts i n ≤ 512 ∧ e = .returned (.tuple #[]) ∧ RS w' p b g cap ts (i + 1) (Sx.up ts i n) d ∧ KpP p w w') → Stepped w p b g cap ts i n d (.returned (.tuple #[])) e w') from fun _ _ h => h
  have hcl' : i ≤ 4611686018427387904 := by omega
  generalize Stepped w p b g cap ts i n d (.returned (.tuple #[])) = Q at *
  generalize Sx.up ts i n = u at *
  generalize Sx.counts (Sx.tk ts i) = cc at *
  generalize Sx.tk ts i = t at *
  obtain ⟨tk, tx, tn, tl, tc, to⟩ := t
  unfold tnV at *
  clear h hcl hi
  go_enter Tryz.func90, Tryz.ntmps90
  go_wp2_with fail
  refine KP.out.mono ?_
  rintro e w1 ⟨rfl, hb1⟩
  have HB1 := show Hid (Below w.heap.size w w1) from hb1
  have HS1 := show Hid (RS w1 p b g cap ts i n d) from HS.out.later hb1
  clear hb1 KP
  go_wp2_with fail
  refine (KC.out _).mono ?_
  rintro e w2 ⟨rfl, hb2⟩
  have hlt1 : w1.heap.size < w2.heap.size := by have := hb2.size; simp at this; omega
  have HB2 := show Hid (Below w.heap.size w w2) from HB1.out.trans ((below_alloc w1 _).trans (hb2.mono (by simp)) |>.mono HB1.out.size)
  have HS2 := show Hid (RS w2 p b g cap ts i n d) from (HS1.out.later (below_alloc w1 _)).later hb2
  have HT := show Hid (T6' w2 w1.heap.size (.int .i64 tk) (.string tx) (.int .i64 tn) (.int .i64 tl) (.int .i64 tc) (.int .i64 to)) from (hb2.block _ (by simp)).trans (heap_alloc_new _ _)
  have HB1s := show Hid (w.heap.size ≤ w1.heap.size) from HB1.out.size
  clear hb2 KC HB1 HS1
  have c2 := HS2.out.rd.c2; have c3 := HS2.out.rd.c3; have hf := HS2.out.rd.fr
  have t3 := HT.out.c3; have t4 := HT.out.c4; have t5 := HT.out.c5
  have hpn : ¬ w1.heap.size = p := by have := HS.out.rd.lt; have := HB1s.out; omega
  have hpn2 : ¬ p = w1.heap.size := fun e => hpn e.symm
  have HKP := show Hid (KpP p w w2) from KpP.of_below HB2.out
  cases cc
  · have hu : u = n := HU.out
    subst hu
    have hle : (u : Int) ≤ 512 := by omega
    have hle2 : ¬ 512 < (u : Int) := by omega
    clear HU hn
    go_wp2_with fail
    go_end0
    exact HX.out _ _ (Or.inr ⟨by omega, rfl, HS2.out.s2 (i + 1), HKP.out.set _ _⟩)
  · have hu : u = n + 1 := HU.out
    subst hu
    by_cases hgt : 512 < n + 1
    · have HGT := show Hid _ from hgt
      have hle : 512 < ((n : Int) + 1) := by omega
      clear HU hgt
      go_wp2_with fail
      exact ⟨rfl, HX.out _ _ (Or.inl ⟨HGT.out, rfl, HKP.out.set _ _⟩)⟩
    · have HGT := show Hid _ from hgt
      have hle : ((n : Int) + 1) ≤ 512 := by omega
      have hle2 : ¬ 512 < ((n : Int) + 1) := by omega
      clear HU hgt hn
      go_wp2_with fail
      go_end0
      exact HX.out _ _ (Or.inr ⟨by have := HGT.out; omega, rfl, (HS2.out.s3 (n + 1)).s2 (i + 1), (HKP.out.set _ _).set _ _⟩)
set_option maxRecDepth 100000 in
set_option maxHeartbeats 1000000 in
theorem refuse_any (h : RS w p b g cap ts i n d) (hn : n ≤ 512) (hi : i ≤ ts.length) :
    Calls Tryz.prog 57 #[.pointer (some ⟨p, 0, none⟩)] w fun e w' => e = fltP (if 512 < Sx.up ts i n then 40 else 41) (Sx.tk ts i) ∧ KpP p w w' := by
  have KP := show Hid (Calls Tryz.prog 56 #[.pointer (some ⟨p, 0, none⟩)] w fun e w' => e = .returned (tnV (Sx.tk ts i)) ∧ Below w.heap.size w w') from peek_any w h
  have KS := show Hid (∀ w1, Below w.heap.size w w1 → Calls Tryz.prog 90 #[.pointer (some ⟨p, 0, none⟩)] w1 fun e w' => Stepped w1 p b g cap ts i n d (.returned (.tuple #[])) e w') from fun w1 hb => step_any w1 (h.later hb) hn hi
  have HS := show Hid (RS w p b g cap ts i n d) from h
  generalize ht : Sx.tk ts i = t at *
  have HTK := show Hid (Sx.tk ts i = t) from ht
  clear ht
  obtain ⟨tk, tx, tn, tl, tc, to⟩ := t
  unfold tnV at *
  generalize hec : (if 512 < Sx.up ts i n then (40 : Int) else 41) = ec at *
  have HEC := show Hid ((if 512 < Sx.up ts i n then (40 : Int) else 41) = ec) from hec
  clear h hn hi hec
  go_enter Tryz.func57, Tryz.ntmps57
  go_wp2_with fail
  refine KP.out.mono ?_
  rintro e w1 ⟨rfl, hb1⟩
  have HB1 := show Hid (Below w.heap.size w w1) from hb1
  clear hb1 KP
  go_wp2_with fail
  have HBA := show Hid (Below w.heap.size w (w1.alloc (Obj.cells #[.int .i64 tk, .string tx, .int .i64 tn, .int .i64 tl, .int .i64 tc, .int .i64 to] 45))) from HB1.out.alloc HB1.out.size _
  have HTA := show Hid (T6' (w1.alloc (Obj.cells #[.int .i64 tk, .string tx, .int .i64 tn, .int .i64 tl, .int .i64 tc, .int .i64 to] 45)) w1.heap.size (.int .i64 tk) (.string tx) (.int .i64 tn) (.int .i64 tl) (.int .i64 tc) (.int .i64 to)) from heap_alloc_new _ _
  have hp1 : ¬ w1.heap.size = p := by have := HS.out.rd.lt; have := HB1.out.size; omega
  refine (KS.out _ HBA.out).mono ?_
  rintro e w2 (⟨hu, rfl, hk⟩ | ⟨hu, rfl, hr, hk⟩)
  · have HH := show Hid _ from (⟨hu, hk⟩ : _ ∧ _)
    clear hu hk KS
    rw [HTK.out]
    unfold fltP
    go_wp2_with fail
    refine ⟨rfl, ?_, (KpP.of_below HBA.out).trans HH.out.2⟩
    rw [← HEC.out, if_pos HH.out.1]
    rfl
  · have HH := show Hid _ from (⟨hu, hk⟩ : _ ∧ _)
    have HT2 := show Hid (T6' w2 w1.heap.size (.int .i64 tk) (.string tx) (.int .i64 tn) (.int .i64 tl) (.int .i64 tc) (.int .i64 to)) from (hk.block _ (by simp) hp1).trans HTA.out
    have t3 := HT2.out.c3; have t4 := HT2.out.c4; have t5 := HT2.out.c5
    clear hu hk hr KS
    go_wp2_with fail
    refine ⟨rfl, ?_, (KpP.of_below HBA.out).trans HH.out.2⟩
    rw [← HEC.out, if_neg (by have := HH.out.1; omega)]
    rfl
set_option maxRecDepth 100000 in
set_option maxHeartbeats 1000000 in
theorem at_any (h : RS w p b g cap ts i n d) (x : ByteArray) :
    Calls Tryz.prog 112 #[.pointer (some ⟨p, 0, none⟩), .string x] w fun e w' => e = .returned (.bool (Sx.sgn (Sx.tk ts i) x.data.toList)) ∧ Below w.heap.size w w' := by
  have KP := show Hid (Calls Tryz.prog 56 #[.pointer (some ⟨p, 0, none⟩)] w fun e w' => e = .returned (tnV (Sx.tk ts i)) ∧ Below w.heap.size w w') from peek_any w h
  generalize Sx.tk ts i = t at *
  obtain ⟨tk, tx, tn, tl, tc, to⟩ := t
  unfold tnV at *
  clear h
  go_enter Tryz.func112, Tryz.ntmps112
  go_wp2_with fail
  refine KP.out.mono ?_
  rintro e w1 ⟨rfl, hb1⟩
  have HB1 := show Hid (Below w.heap.size w w1) from hb1
  clear hb1 KP
  go_wp2_with fail
  all_goals (go_ret; refine ⟨ret_bool ?_, HB1.out.alloc HB1.out.size _⟩; simp only [Sx.sgn, ← ByteArray.toList_eq]; simp_all)
/-- What sign answers. -/
def Signed (w : World) (p b g cap : Nat) (ts : List Tn) (i n d : Nat) (x : List UInt8) (e : Ending) (w' : World) : Prop :=
  (Sx.sgn (Sx.tk ts i) x = false ∧ e = .returned (.bool false) ∧ Below w.heap.size w w') ∨ (Sx.sgn (Sx.tk ts i) x = true ∧ Stepped w p b g cap ts i n d (.returned (.bool true)) e w')
set_option maxRecDepth 100000 in
set_option maxHeartbeats 1000000 in
theorem sign_any (h : RS w p b g cap ts i n d) (hn : n ≤ 512) (hi : i ≤ ts.length) (x : ByteArray) :
    Calls Tryz.prog 87 #[.pointer (some ⟨p, 0, none⟩), .string x] w fun e w' => Signed w p b g cap ts i n d x.data.toList e w' := by
  have HX := show Hid (∀ e w', (Sx.sgn (Sx.tk ts i) x.data.toList = false ∧ e = .returned (.bool false) ∧ Below w.heap.size w w') ∨ (Sx.sgn (Sx.tk ts i) x.data.toList = true ∧ Stepped w p b g cap ts i n d (.returned (.bool true)) e w') → Signed w p b g cap ts i n d x.data.toList e w') from fun _ _ h => h
  generalize Signed w p b g cap ts i n d x.data.toList = Q at *
  have KA := show Hid (Calls Tryz.prog 112 #[.pointer (some ⟨p, 0, none⟩), .string x] w fun e w' => e = .returned (.bool (Sx.sgn (Sx.tk ts i) x.data.toList)) ∧ Below w.heap.size w w') from at_any w h x
  have KS := show Hid (∀ w1, Below w.heap.size w w1 → Calls Tryz.prog 90 #[.pointer (some ⟨p, 0, none⟩)] w1 fun e w' => Stepped w1 p b g cap ts i n d (.returned (.tuple #[])) e w') from fun w1 hb => step_any w1 (h.later hb) hn hi
  clear h hn hi
  generalize Sx.sgn (Sx.tk ts i) x.data.toList = q at *
  go_enter Tryz.func87, Tryz.ntmps87
  go_wp2_with fail
  refine KA.out.mono ?_
  rintro e w1 ⟨rfl, hb1⟩
  have HB1 := show Hid (Below w.heap.size w w1) from hb1
  clear hb1 KA
  cases q
  · go_wp2_with fail
    exact HX.out _ _ (Or.inl ⟨by simp, rfl, HB1.out⟩)
  · go_wp2_with fail
    refine (KS.out _ HB1.out).mono ?_
    rintro e w2 (⟨hu, rfl, hk⟩ | ⟨hu, rfl, hr, hk⟩)
    · have HH := show Hid _ from (⟨hu, hk⟩ : _ ∧ _)
      clear hu hk KS
      unfold fltP
      go_wp2_with fail
      exact ⟨rfl, HX.out _ _ (Or.inr ⟨by simp, Or.inl ⟨HH.out.1, rfl, (KpP.of_below HB1.out).trans HH.out.2⟩⟩)⟩
    · have HH := show Hid _ from (⟨hu, hr, hk⟩ : _ ∧ _ ∧ _)
      clear hu hk hr KS
      go_wp2_with fail
      exact HX.out _ _ (Or.inr ⟨by simp, Or.inr ⟨HH.out.1, rfl, HH.out.2.1, (KpP.of_below HB1.out).trans HH.out.2.2⟩⟩)
theorem field_tok0 (w : World) (k : Int) (s : ByteArray) (n l c o : Int) : (Instr.field 45 (.agg #[.int .i64 k, .string s, .int .i64 n, .int .i64 l, .int .i64 c, .int .i64 o]) 0).run Tryz.prog w = .ok (.int .i64 k) w := by kernel_rfl
theorem field_tok1 (w : World) (k : Int) (s : ByteArray) (n l c o : Int) : (Instr.field 45 (.agg #[.int .i64 k, .string s, .int .i64 n, .int .i64 l, .int .i64 c, .int .i64 o]) 1).run Tryz.prog w = .ok (.string s) w := by kernel_rfl
/-- What end answers. -/
def Ended (w : World) (p : Nat) (ts : List Tn) (i n : Nat) (e : Ending) (w' : World) : Prop :=
  ((Sx.tk ts i).k = 0 ∧ e = .returned (.tuple #[]) ∧ Below w.heap.size w w') ∨ ((Sx.tk ts i).k ≠ 0 ∧ e = fltP (if 512 < Sx.up ts i n then 40 else 41) (Sx.tk ts i) ∧ KpP p w w')
set_option maxRecDepth 100000 in
set_option maxHeartbeats 1000000 in
theorem end_any (h : RS w p b g cap ts i n d) (hn : n ≤ 512) (hi : i ≤ ts.length) :
    Calls Tryz.prog 29 #[.pointer (some ⟨p, 0, none⟩)] w fun e w' => Ended w p ts i n e w' := by
  have HX := show Hid (∀ e w', ((Sx.tk ts i).k = 0 ∧ e = .returned (.tuple #[]) ∧ Below w.heap.size w w') ∨ ((Sx.tk ts i).k ≠ 0 ∧ e = fltP (if 512 < Sx.up ts i n then 40 else 41) (Sx.tk ts i) ∧ KpP p w w') → Ended w p ts i n e w') from fun _ _ h => h
  generalize Ended w p ts i n = Q at *
  have hfd := field_tok0
  have KP := show Hid (Calls Tryz.prog 56 #[.pointer (some ⟨p, 0, none⟩)] w fun e w' => e = .returned (tnV (Sx.tk ts i)) ∧ Below w.heap.size w w') from peek_any w h
  have KR := show Hid (∀ w1, Below w.heap.size w w1 → Calls Tryz.prog 57 #[.pointer (some ⟨p, 0, none⟩)] w1 fun e w' => e = fltP (if 512 < Sx.up ts i n then 40 else 41) (Sx.tk ts i) ∧ KpP p w1 w') from fun w1 hb => refuse_any w1 (h.later hb) hn hi
  clear h hn hi
  generalize (if 512 < Sx.up ts i n then (40 : Int) else 41) = ec at *
  generalize Sx.tk ts i = t at *
  obtain ⟨tk, tx, tn, tl, tc, to⟩ := t
  unfold tnV at *
  go_enter Tryz.func29, Tryz.ntmps29
  go_wp2_with fail
  refine KP.out.mono ?_
  rintro e w1 ⟨rfl, hb1⟩
  have HB1 := show Hid (Below w.heap.size w w1) from hb1
  clear hb1 KP
  by_cases hk : tk = 0
  · subst hk
    go_wp2_with fail
    go_end0
    exact HX.out _ _ (Or.inl ⟨by simp, rfl, HB1.out⟩)
  · have hk2 : (tk != 0) = true := by simp [hk]
    have HK := show Hid _ from hk
    clear hk
    go_wp2_with fail
    refine (KR.out _ HB1.out).mono ?_
    rintro e w2 ⟨rfl, hkp⟩
    have HKP := show Hid _ from hkp
    clear hkp KR
    unfold fltP
    go_wp2_with fail
    exact ⟨rfl, HX.out _ _ (Or.inr ⟨HK.out, rfl, (KpP.of_below HB1.out).trans HKP.out⟩)⟩
end
end Go.Proofs.YtcidldgenogdkaaGreatDoor
/-
  The calls join, named and word of a reader: closures are made. For every list of tokens. No other condition.
-/
namespace Go.Proofs.YtcidldgenogdkaaGreatDoor
open Go.RowKit Go.Maps
open Fm (Nd)
open Sx (Tn T)

theorem mkFunc (fn : Fn) (first cap : Array Value) (w : World) : (Instr.makeFunc fn first cap).run Tryz.prog w = .ok (.func fn first cap) w := rfl
theorem eql_nil (w : World) : (binOp BinOp.eql 113 .nilFunc .nilFunc).run Tryz.prog w = .ok (.bool true) w := by kernel_rfl
theorem eql_fun (fn : Fn) (first cap : Array Value) (w : World) : (binOp BinOp.eql 113 (.func fn first cap) .nilFunc).run Tryz.prog w = .ok (.bool false) w := by kernel_rfl
theorem Pts.shape {w : World} {p b : Nat} : ∀ {a : T} {c : Value}, Pts w p b a c → ∃ F cap, c = .func (.func F) #[] cap
  | .bot, _, ⟨_, h, _⟩ => ⟨_, _, h⟩
  | .top, _, ⟨_, h, _⟩ => ⟨_, _, h⟩
  | .atom _, _, ⟨_, _, h, _⟩ => ⟨_, _, h⟩
  | .neg _, _, ⟨_, _, _, h, _⟩ => ⟨_, _, h⟩
  | .bin _ _ _, _, ⟨_, _, _, _, _, h, _⟩ => ⟨_, _, h⟩
  | .iff _ _, _, ⟨_, _, _, _, _, h, _⟩ => ⟨_, _, h⟩
theorem heap_new_at (w : World) (cs : Array Value) (ty : TypeId) {k : Nat} (h : k = w.heap.size) : (w.alloc (.cells cs ty)).heap[k]? = some (.cells cs ty (0, 0)) := by subst h; exact heap_alloc_new w _
/-- The closure that joins two. -/
def joinV (h : Nat) : Value := .func (.func 113) #[] #[ptrV h, ptrV (h + 1), ptrV (h + 2)]
def joinW (w : World) (c1 c2 hv : Value) : World := ((w.alloc (.cells #[c1] 113)).alloc (.cells #[c2] 113)).alloc (.cells #[hv] 156)
theorem joinW_below (w : World) (c1 c2 hv : Value) : Below w.heap.size w (joinW w c1 c2 hv) := (((Below.refl _ _).alloc (Nat.le_refl _) _).alloc (by simp) _).alloc (by simp; omega) _
theorem joinW_b1 (w : World) (c1 c2 hv : Value) : Box (joinW w c1 c2 hv) w.heap.size c1 113 :=
  (Below.heap_alloc _ _ _ (by simp; omega)).trans ((Below.heap_alloc _ _ _ (by simp)).trans (heap_alloc_new w _))
theorem joinW_b2 (w : World) (c1 c2 hv : Value) : Box (joinW w c1 c2 hv) (w.heap.size + 1) c2 113 :=
  (Below.heap_alloc _ _ _ (by simp)).trans (heap_new_at _ _ _ (by simp))
theorem joinW_b3 (w : World) (c1 c2 hv : Value) : Box (joinW w c1 c2 hv) (w.heap.size + 2) hv 156 := heap_new_at _ _ _ (by simp)
theorem joinW_bin {w : World} {p b : Nat} {k : Int} {a a2 : T} {c1 c2 : Value} (h1 : Pts w p b a c1) (h2 : Pts w p b a2 c2) : Pts (joinW w c1 c2 (howV p b k)) p b (.bin k a a2) (joinV w.heap.size) :=
  ⟨_, _, _, c1, c2, rfl, joinW_b1 _ _ _ _, joinW_b2 _ _ _ _, joinW_b3 _ _ _ _, h1.later (joinW_below _ _ _ _), h2.later (joinW_below _ _ _ _)⟩
theorem joinW_iff {w : World} {p b : Nat} {a a2 : T} {c1 c2 : Value} (h1 : Pts w p b a c1) (h2 : Pts w p b a2 c2) : Pts (joinW w c1 c2 (howV p b 0)) p b (.iff a a2) (joinV w.heap.size) :=
  ⟨_, _, _, c1, c2, rfl, joinW_b1 _ _ _ _, joinW_b2 _ _ _ _, joinW_b3 _ _ _ _, h1.later (joinW_below _ _ _ _), h2.later (joinW_below _ _ _ _)⟩
section
variable (w : World) {p b g cap : Nat} {ts : List Tn} {i n d : Nat}
set_option maxHeartbeats 400000 in
theorem join_any (f1 f2 f3 : Fn) (a1 a2 a3 p1 p2 p3 : Array Value) :
    Calls Tryz.prog 88 #[.func f1 a1 p1, .func f2 a2 p2, .func f3 a3 p3] w fun e w' => e = .returned (joinV w.heap.size) ∧ w' = joinW w (.func f1 a1 p1) (.func f2 a2 p2) (.func f3 a3 p3) := by
  have hmf := mkFunc
  go_enter Tryz.func88, Tryz.ntmps88
  go_wp2_with fail
  go_ret
  exact ⟨rfl, rfl⟩
/-- What named answers. -/
def Named (w : World) (p b : Nat) (s : ByteArray) (e : Ending) (w' : World) : Prop :=
  ((Sx.named s = none ∧ e = .returned .nilFunc) ∨ ∃ a F cap, Sx.named s = some a ∧ e = .returned (.func (.func F) #[] cap) ∧ Pts w' p b a (.func (.func F) #[] cap)) ∧ Below w.heap.size w w'
set_option maxHeartbeats 1000000 in
theorem named_any (s : ByteArray) (hs : s.size ≤ 140737488351232) :
    Calls Tryz.prog 152 #[.pointer (some ⟨p, 0, none⟩), .string s] w fun e w' => Named w p b s e w' := by
  have KW := show Hid (∀ w : World, Calls Tryz.prog 128 #[.string s] w fun e w' => e = .returned (.bool (Fm.word s.data.toList)) ∧ w' = w) from fun w => word_any w s hs
  have HX := show Hid (∀ e w', ((Sx.named s = none ∧ e = .returned .nilFunc) ∨ ∃ a F cap, Sx.named s = some a ∧ e = .returned (.func (.func F) #[] cap) ∧ Pts w' p b a (.func (.func F) #[] cap)) ∧ Below w.heap.size w w' → Named w p b s e w') from fun _ _ h => h
  generalize Named w p b s = Q at *
  have HW := show Hid (Below w.heap.size w ((w.alloc (.cells #[ptrV p] 68)).alloc (.cells #[.string s] 9))) from ((Below.refl _ _).alloc (Nat.le_refl _) _).alloc (by simp) _
  have HB1 := show Hid (Box ((w.alloc (.cells #[ptrV p] 68)).alloc (.cells #[.string s] 9)) w.heap.size (ptrV p) 68) from (Below.heap_alloc _ _ _ (by simp)).trans (heap_alloc_new w _)
  have HB2 := show Hid (Box ((w.alloc (.cells #[ptrV p] 68)).alloc (.cells #[.string s] 9)) (w.heap.size + 1) (.string s) 9) from heap_new_at _ _ _ (by simp)
  have hmf := mkFunc
  have hts : s.toList = s.data.toList := ByteArray.toList_eq s
  have HN := show Hid (Sx.named s = if s.data.toList = Sx.wFalse then some .bot else if s.data.toList = Sx.wTrue then some .top else if Fm.word s.data.toList then some (.atom s) else none) from rfl
  generalize Sx.named s = nm at *
  clear hs
  by_cases h1 : s.data.toList = [102, 97, 108, 115, 101]
  · have hq : (s.toList == [102, 97, 108, 115, 101]) = true := by rw [hts, h1]; rfl
    have hn := HN.out
    rw [if_pos h1] at hn
    subst hn
    clear h1 hts HN
    go_enter Tryz.func152, Tryz.ntmps152
    go_wp2_with fail
    exact HX.out _ _ ⟨Or.inr ⟨_, _, _, rfl, rfl, ⟨w.heap.size, rfl, HB1.out⟩⟩, HW.out⟩
  · have hq : (s.toList == [102, 97, 108, 115, 101]) = false := by rw [hts]; simp [h1]
    by_cases h2 : s.data.toList = [116, 114, 117, 101]
    · have hq2 : (s.toList == [116, 114, 117, 101]) = true := by rw [hts, h2]; rfl
      have hn := HN.out
      rw [if_neg h1, if_pos h2] at hn
      subst hn
      clear h1 h2 hts HN
      go_enter Tryz.func152, Tryz.ntmps152
      go_wp2_with fail
      exact HX.out _ _ ⟨Or.inr ⟨_, _, _, rfl, rfl, ⟨w.heap.size, rfl, HB1.out⟩⟩, HW.out⟩
    · have hq2 : (s.toList == [116, 114, 117, 101]) = false := by rw [hts]; simp [h2]
      have hn := HN.out
      rw [if_neg h1, if_neg h2] at hn
      have HN2 := show Hid _ from hn
      clear h1 h2 hts HN hn
      generalize Fm.word s.data.toList = q at *
      go_enter Tryz.func152, Tryz.ntmps152
      go_wp2_with fail
      refine (KW.out _).mono ?_
      rintro e w1 ⟨rfl, hw1⟩
      subst w1
      cases q
      · have hn := HN2.out
        simp only [Bool.false_eq_true, if_false] at hn
        subst hn
        go_wp2_with fail
        exact HX.out _ _ ⟨Or.inl ⟨by simp, rfl⟩, HW.out⟩
      · have hn := HN2.out
        simp only [if_true] at hn
        subst hn
        go_wp2_with fail
        exact HX.out _ _ ⟨Or.inr ⟨_, _, _, rfl, rfl, ⟨w.heap.size, w.heap.size + 1, rfl, HB1.out, HB2.out⟩⟩, HW.out⟩
/-- What reading answers. -/
def Read (w : World) (p b g cap : Nat) (ts : List Tn) (d : Nat) (o : Sx.Out) (e : Ending) (w' : World) : Prop :=
  match o with
  | .ok a i n => ∃ F cp, e = .returned (.func (.func F) #[] cp) ∧ Pts w' p b a (.func (.func F) #[] cp) ∧ RS w' p b g cap ts i n d ∧ KpP p w w'
  | .bad er t => e = fltP er t ∧ KpP p w w'
theorem read_ok {w w' : World} {p b g cap : Nat} {ts : List Tn} {d : Nat} {o : Sx.Out} {a : T} {i n F : Nat} {cp : Array Value} (ho : o = .ok a i n) (h1 : Pts w' p b a (.func (.func F) #[] cp)) (h2 : RS w' p b g cap ts i n d) (h3 : KpP p w w') : Read w p b g cap ts d o (.returned (.func (.func F) #[] cp)) w' := by
  subst ho
  exact ⟨F, cp, rfl, h1, h2, h3⟩
theorem read_bad {w w' : World} {p b g cap : Nat} {ts : List Tn} {d : Nat} {o : Sx.Out} {er : Int} {t : Tn} (ho : o = .bad er t) (h3 : KpP p w w') : Read w p b g cap ts d o (fltP er t) w' := by
  subst ho
  exact ⟨rfl, h3⟩
end
end Go.Proofs.YtcidldgenogdkaaGreatDoor
/-
  The reader's calls formula, implied, joined, both, chain, single, enclosed, word: what is read of every list of tokens. No other condition.
-/
namespace Go.Proofs.YtcidldgenogdkaaGreatDoor
open Go.RowKit Go.Maps
open Fm (Nd)
open Sx (Tn T Lv)

/-- What one of the calls answers with some fuel. -/
def Con (p b g cap : Nat) (ts : List Tn) (F : Nat) (lv : Lv) (f : Nat) : Prop :=
  ∀ (w : World) (i n d : Nat) (o : Sx.Out), RS w p b g cap ts i n d → i ≤ ts.length → n ≤ 512 → d ≤ 1024 → Sx.rd ts f lv i n d = some o →
    Calls Tryz.prog F #[.pointer (some ⟨p, 0, none⟩)] w fun e w' => Read w p b g cap ts d o e w'
section
variable {p b g cap : Nat} {ts : List Tn}
theorem cellp {w w' : World} {q : Addr} {v : Value} (h : w.cell? q = some v) (hb : Below w.heap.size w w') : w'.cell? q = some v := (hb.cell (World.block_lt_of_cell? w _ h)).trans h
theorem RS.nlen {w : World} {i n d : Nat} (h : RS w p b g cap ts i n d) : ts.length ≤ 4611686018427387904 := by obtain ⟨cur, _, _, _, _, h1⟩ := h.tk; exact h1
set_option maxRecDepth 100000 in
set_option maxHeartbeats 2000000 in
theorem formula_con (f : Nat) (h1 : Con p b g cap ts 86 .implied f) (h2 : Con p b g cap ts 55 .formula f) : Con p b g cap ts 55 .formula (f + 1) := by
  intro w i n d o hS hi hn hd hr
  have hmf := mkFunc
  rcases Sx.bnd_cases hr with ⟨er, t, hx, rfl⟩ | ⟨a, i1, n1, hx, hk⟩
  · have K1 := show Hid (Calls Tryz.prog 86 #[.pointer (some ⟨p, 0, none⟩)] w fun e w' => Read w p b g cap ts d (.bad er t) e w') from h1 w i n d _ hS hi hn hd hx
    clear h1 h2 hS hi hn hd hr hx
    go_enter Tryz.func55, Tryz.ntmps55
    go_wp2_with fail
    refine K1.out.mono ?_
    rintro e w1 ⟨rfl, hk⟩
    have HK := show Hid _ from hk
    clear hk K1
    unfold fltP
    go_wp2_with fail
    exact ⟨rfl, read_bad rfl HK.out⟩
  · have K1 := show Hid (Calls Tryz.prog 86 #[.pointer (some ⟨p, 0, none⟩)] w fun e w' => Read w p b g cap ts d (.ok a i1 n1) e w') from h1 w i n d _ hS hi hn hd hx
    have hf := Sx.rd_fine ts f .implied i n d _ hi hx _ _ _ rfl
    have hn1 := hf.2.2 hn
    have HC := show Hid (∀ w1, RS w1 p b g cap ts i1 n1 d → Calls Tryz.prog 87 #[.pointer (some ⟨p, 0, none⟩), .string ⟨#[60, 45, 62]⟩] w1 fun e w' => Signed w1 p b g cap ts i1 n1 d [60, 45, 62] e w') from fun w1 hS1 => sign_any w1 hS1 hn1 hf.2.1 ⟨#[60, 45, 62]⟩
    have HK := show Hid _ from hk
    have H2 := show Hid (Con p b g cap ts 55 .formula f) from h2
    have HF := show Hid (i1 ≤ ts.length ∧ n1 ≤ 512 ∧ d ≤ 1024) from ⟨hf.2.1, hn1, hd⟩
    clear h1 h2 hS hi hn hd hr hx hf hn1 hk
    go_enter Tryz.func55, Tryz.ntmps55
    go_wp2_with fail
    refine K1.out.mono ?_
    rintro e w1 ⟨F1, cp1, rfl, hP1, hS1, hk1⟩
    have X1 := show Hid (Pts w1 p b a (.func (.func F1) #[] cp1) ∧ RS w1 p b g cap ts i1 n1 d ∧ KpP p w w1) from ⟨hP1, hS1, hk1⟩
    clear hP1 hS1 hk1 K1
    go_wp2_with fail
    refine (HC.out _ X1.out.2.1).mono ?_
    rintro e w2 (⟨hs, rfl, hb2⟩ | ⟨hs, ⟨hu, rfl, hk2⟩ | ⟨hu, rfl, hS2, hk2⟩⟩)
    · have hk := HK.out
      rw [hs] at hk
      simp only [Bool.false_eq_true, if_false, Option.some.injEq] at hk
      have X2 := show Hid (Pts w2 p b a (.func (.func F1) #[] cp1) ∧ RS w2 p b g cap ts i1 n1 d ∧ KpP p w w2) from ⟨X1.out.1.later hb2, X1.out.2.1.later hb2, X1.out.2.2.trans (KpP.of_below hb2)⟩
      have HO := show Hid _ from hk
      clear hs hb2 hk X1 HC HK
      go_wp2_with fail
      go_ret
      exact read_ok HO.out.symm X2.out.1 X2.out.2.1 X2.out.2.2
    · have hk := HK.out
      rw [hs] at hk
      simp only [if_true] at hk
      rcases Sx.stp_cases hk with ⟨_, ho⟩ | ⟨hu', _⟩
      · have HO := show Hid (_ ∧ _) from ⟨ho, X1.out.2.2.trans hk2⟩
        clear hs hk hu hk2 ho HC HK X1
        unfold fltP
        go_wp2_with fail
        exact ⟨rfl, read_bad HO.out.1 HO.out.2⟩
      · omega
    · have hk := HK.out
      rw [hs] at hk
      simp only [if_true] at hk
      rcases Sx.stp_cases hk with ⟨hu', _⟩ | ⟨_, hk⟩
      · omega
      have hl := Sx.sgn_lt hs
      rcases Sx.bnd_cases hk with ⟨er, t, hx, rfl⟩ | ⟨a2, i2, n2, hx, hk⟩
      · have K2 := show Hid (Calls Tryz.prog 55 #[.pointer (some ⟨p, 0, none⟩)] w2 fun e w' => Read w2 p b g cap ts d (.bad er t) e w') from H2.out w2 _ _ d _ hS2 (by omega) hu HF.out.2.2 hx
        have X2 := show Hid (KpP p w w2) from X1.out.2.2.trans hk2
        clear hs hk hu hk2 HC HK X1 hS2 hx hl H2 HF
        go_wp2_with fail
        refine K2.out.mono ?_
        rintro e w3 ⟨rfl, hk⟩
        have HK := show Hid _ from X2.out.trans hk
        clear hk K2 X2
        unfold fltP
        go_wp2_with fail
        exact ⟨rfl, read_bad rfl HK.out⟩
      · have K2 := show Hid (Calls Tryz.prog 55 #[.pointer (some ⟨p, 0, none⟩)] w2 fun e w' => Read w2 p b g cap ts d (.ok a2 i2 n2) e w') from H2.out w2 _ _ d _ hS2 (by omega) hu HF.out.2.2 hx
        have X2 := show Hid (Pts w2 p b a (.func (.func F1) #[] cp1) ∧ RS w2 p b g cap ts (i1 + 1) (Sx.up ts i1 n1) d ∧ KpP p w w2) from ⟨X1.out.1.kpP X1.out.2.1.rd hk2, hS2, X1.out.2.2.trans hk2⟩
        have HO := show Hid _ from Option.some.inj hk
        clear hs hk hu hk2 HC HK X1 hS2 hx hl H2 HF
        go_wp2_with fail
        refine K2.out.mono ?_
        rintro e w3 ⟨F2, cp2, rfl, hP3, hS3, hk3⟩
        have X3 := show Hid (Pts w3 p b a (.func (.func F1) #[] cp1) ∧ Pts w3 p b a2 (.func (.func F2) #[] cp2) ∧ RS w3 p b g cap ts i2 n2 d ∧ KpP p w w3) from ⟨X2.out.1.kpP X2.out.2.1.rd hk3, hP3, hS3, X2.out.2.2.trans hk3⟩
        clear hP3 hS3 hk3 K2 X2
        go_wp2_with fail
        refine (join_any w3 _ _ _ _ _ _ _ _ _).mono ?_
        rintro e w4 ⟨rfl, hw4⟩
        have HW4 := show Hid _ from hw4
        clear hw4
        go_wp2_with fail
        go_ret
        rw [HW4.out]
        exact read_ok (F := 113) HO.out.symm (joinW_iff X3.out.1 X3.out.2.1) (X3.out.2.2.1.later (joinW_below _ _ _ _)) (X3.out.2.2.2.trans (KpP.of_below (joinW_below _ _ _ _)))
set_option maxRecDepth 100000 in
set_option maxHeartbeats 2000000 in
theorem implied_con (f : Nat) (h1 : Con p b g cap ts 110 .joined f) (h2 : Con p b g cap ts 86 .implied f) : Con p b g cap ts 86 .implied (f + 1) := by
  intro w i n d o hS hi hn hd hr
  have hmf := mkFunc
  rcases Sx.bnd_cases hr with ⟨er, t, hx, rfl⟩ | ⟨a, i1, n1, hx, hk⟩
  · have K1 := show Hid (Calls Tryz.prog 110 #[.pointer (some ⟨p, 0, none⟩)] w fun e w' => Read w p b g cap ts d (.bad er t) e w') from h1 w i n d _ hS hi hn hd hx
    clear h1 h2 hS hi hn hd hr hx
    go_enter Tryz.func86, Tryz.ntmps86
    go_wp2_with fail
    refine K1.out.mono ?_
    rintro e w1 ⟨rfl, hk⟩
    have HK := show Hid _ from hk
    clear hk K1
    unfold fltP
    go_wp2_with fail
    exact ⟨rfl, read_bad rfl HK.out⟩
  · have K1 := show Hid (Calls Tryz.prog 110 #[.pointer (some ⟨p, 0, none⟩)] w fun e w' => Read w p b g cap ts d (.ok a i1 n1) e w') from h1 w i n d _ hS hi hn hd hx
    have hf := Sx.rd_fine ts f .joined i n d _ hi hx _ _ _ rfl
    have hn1 := hf.2.2 hn
    have HC := show Hid (∀ w1, RS w1 p b g cap ts i1 n1 d → Calls Tryz.prog 87 #[.pointer (some ⟨p, 0, none⟩), .string ⟨#[45, 62]⟩] w1 fun e w' => Signed w1 p b g cap ts i1 n1 d [45, 62] e w') from fun w1 hS1 => sign_any w1 hS1 hn1 hf.2.1 ⟨#[45, 62]⟩
    have HK := show Hid _ from hk
    have H2 := show Hid (Con p b g cap ts 86 .implied f) from h2
    have HF := show Hid (i1 ≤ ts.length ∧ n1 ≤ 512 ∧ d ≤ 1024) from ⟨hf.2.1, hn1, hd⟩
    clear h1 h2 hS hi hn hd hr hx hf hn1 hk
    go_enter Tryz.func86, Tryz.ntmps86
    go_wp2_with fail
    refine K1.out.mono ?_
    rintro e w1 ⟨F1, cp1, rfl, hP1, hS1, hk1⟩
    have X1 := show Hid (Pts w1 p b a (.func (.func F1) #[] cp1) ∧ RS w1 p b g cap ts i1 n1 d ∧ KpP p w w1) from ⟨hP1, hS1, hk1⟩
    clear hP1 hS1 hk1 K1
    go_wp2_with fail
    refine (HC.out _ X1.out.2.1).mono ?_
    rintro e w2 (⟨hs, rfl, hb2⟩ | ⟨hs, ⟨hu, rfl, hk2⟩ | ⟨hu, rfl, hS2, hk2⟩⟩)
    · have hk := HK.out
      rw [hs] at hk
      simp only [Bool.false_eq_true, if_false, Option.some.injEq] at hk
      have X2 := show Hid (Pts w2 p b a (.func (.func F1) #[] cp1) ∧ RS w2 p b g cap ts i1 n1 d ∧ KpP p w w2) from ⟨X1.out.1.later hb2, X1.out.2.1.later hb2, X1.out.2.2.trans (KpP.of_below hb2)⟩
      have HO := show Hid _ from hk
      clear hs hb2 hk X1 HC HK
      go_wp2_with fail
      go_ret
      exact read_ok HO.out.symm X2.out.1 X2.out.2.1 X2.out.2.2
    · have hk := HK.out
      rw [hs] at hk
      simp only [if_true] at hk
      rcases Sx.stp_cases hk with ⟨_, ho⟩ | ⟨hu', _⟩
      · have HO := show Hid (_ ∧ _) from ⟨ho, X1.out.2.2.trans hk2⟩
        clear hs hk hu hk2 ho HC HK X1
        unfold fltP
        go_wp2_with fail
        exact ⟨rfl, read_bad HO.out.1 HO.out.2⟩
      · omega
    · have hk := HK.out
      rw [hs] at hk
      simp only [if_true] at hk
      rcases Sx.stp_cases hk with ⟨hu', _⟩ | ⟨_, hk⟩
      · omega
      have hl := Sx.sgn_lt hs
      rcases Sx.bnd_cases hk with ⟨er, t, hx, rfl⟩ | ⟨a2, i2, n2, hx, hk⟩
      · have K2 := show Hid (Calls Tryz.prog 86 #[.pointer (some ⟨p, 0, none⟩)] w2 fun e w' => Read w2 p b g cap ts d (.bad er t) e w') from H2.out w2 _ _ d _ hS2 (by omega) hu HF.out.2.2 hx
        have K2' := show Hid (∀ wx, Below w2.heap.size w2 wx → Calls Tryz.prog 86 #[.pointer (some ⟨p, 0, none⟩)] wx fun e w' => Read wx p b g cap ts d (.bad er t) e w') from fun wx hb => H2.out wx _ _ d _ (hS2.later hb) (by omega) hu HF.out.2.2 hx
        have X2 := show Hid (KpP p w w2) from X1.out.2.2.trans hk2
        have c0 := hS2.rd.c0
        have c0d : w2.drew.cell? ⟨p, 0, none⟩ = some (.pointer (some ⟨b, 0, none⟩)) := c0
        clear hs hk hu hk2 HC HK X1 hS2 hx hl H2 HF K2
        go_wp2_with fail
        go_region_dies
        all_goals
          refine (K2'.out _ (Below.refl _ _).drew).mono ?_
          rintro e w3 ⟨rfl, hk⟩
          exact ⟨rfl, read_bad rfl (X2.out.trans ⟨hk.os, hk.tape, hk.output, hk.size, hk.block⟩)⟩
      · have K2 := show Hid (Calls Tryz.prog 86 #[.pointer (some ⟨p, 0, none⟩)] w2 fun e w' => Read w2 p b g cap ts d (.ok a2 i2 n2) e w') from H2.out w2 _ _ d _ hS2 (by omega) hu HF.out.2.2 hx
        have X2 := show Hid (Pts w2 p b a (.func (.func F1) #[] cp1) ∧ RS w2 p b g cap ts (i1 + 1) (Sx.up ts i1 n1) d ∧ KpP p w w2) from ⟨X1.out.1.kpP X1.out.2.1.rd hk2, hS2, X1.out.2.2.trans hk2⟩
        have K2' := show Hid (∀ wx, Below w2.heap.size w2 wx → Calls Tryz.prog 86 #[.pointer (some ⟨p, 0, none⟩)] wx fun e w' => Read wx p b g cap ts d (.ok a2 i2 n2) e w') from fun wx hb => H2.out wx _ _ d _ (hS2.later hb) (by omega) hu HF.out.2.2 hx
        have HO := show Hid _ from Option.some.inj hk
        have c0 := hS2.rd.c0
        have c0d : w2.drew.cell? ⟨p, 0, none⟩ = some (.pointer (some ⟨b, 0, none⟩)) := c0
        clear hs hk hu hk2 HC HK X1 hS2 hx hl H2 HF K2
        go_wp2_with fail
        go_region_held3 (fun wx => wx.cell? ⟨p, 0, none⟩ = some (.pointer (some ⟨b, 0, none⟩))) (first | assumption | go_keep | exact cellp (by assumption) (joinW_below _ _ _ _)) (first | (go_at_call 86; refine (K2'.out _ (Below.refl _ _).drew).mono ?_; rintro e w3 ⟨F2, cp2, rfl, hP3, hS3, hk3⟩; have c3 := hS3.rd.c0) | (go_at_call 88; refine (join_any _ _ _ _ _ _ _ _ _ _).mono ?_; rintro e w4 ⟨rfl, rfl⟩))
        all_goals
          have X3 := show Hid (Pts w3 p b a (.func (.func F1) #[] cp1) ∧ Pts w3 p b a2 (.func (.func F2) #[] cp2) ∧ RS w3 p b g cap ts i2 n2 d ∧ KpP p w w3) from ⟨X2.out.1.kpP X2.out.2.1.rd ⟨hk3.os, hk3.tape, hk3.output, hk3.size, hk3.block⟩, hP3, hS3, X2.out.2.2.trans ⟨hk3.os, hk3.tape, hk3.output, hk3.size, hk3.block⟩⟩
          clear hP3 hS3 hk3 K2' X2
          go_wp2_with fail
          go_ret
          exact read_ok (F := 113) HO.out.symm (joinW_bin (k := 5) X3.out.1 X3.out.2.1) (X3.out.2.2.1.later (joinW_below _ _ _ _)) (X3.out.2.2.2.trans (KpP.of_below (joinW_below _ _ _ _)))
end
end Go.Proofs.YtcidldgenogdkaaGreatDoor
/-
  The reader's calls formula, implied, joined, both, chain, single, enclosed, word: what is read of every list of tokens. No other condition.
-/
namespace Go.Proofs.YtcidldgenogdkaaGreatDoor
open Go.RowKit Go.Maps
open Fm (Nd)
open Sx (Tn T Lv)

section
variable {p b g cap : Nat} {ts : List Tn}
set_option maxRecDepth 100000 in
set_option maxHeartbeats 4000000 in
theorem chain_joined (f : Nat) (hp : ∀ f' ≤ f, Con p b g cap ts 135 .both f') (w : World) (i n d : Nat) (o : Sx.Out) (hS : RS w p b g cap ts i n d) (hi : i ≤ ts.length) (hn : n ≤ 512) (hd : d ≤ 1024) (hr : Sx.rd ts (f + 1) .joined i n d = some o) :
    Calls Tryz.prog 134 #[.pointer (some ⟨p, 0, none⟩), .string ⟨#[124]⟩, .func (.func 135) #[.pointer (some ⟨p, 0, none⟩)] #[], .func (.func 136) #[.pointer (some ⟨b, 0, none⟩)] #[]] w fun e w' => Read w p b g cap ts d o e w' := by
  have HP := show Hid (∀ f' ≤ f, Con p b g cap ts 135 .both f') from hp
  have HD := show Hid (d ≤ 1024) from hd
  rcases Sx.bnd_cases hr with ⟨er, t, hx, rfl⟩ | ⟨a, i1, n1, hx, hk⟩
  · have K1 := show Hid (Calls Tryz.prog 135 #[.pointer (some ⟨p, 0, none⟩)] w fun e w' => Read w p b g cap ts d (.bad er t) e w') from hp f (Nat.le_refl _) w i n d _ hS hi hn hd hx
    clear hp hS hi hn hd hr hx HP
    go_enter Tryz.func134, Tryz.ntmps134
    go_wp2_with fail
    refine K1.out.mono ?_
    rintro e w1 ⟨rfl, hk⟩
    have HK := show Hid _ from hk
    clear hk K1
    unfold fltP
    go_wp2_with fail
    exact ⟨rfl, read_bad rfl HK.out⟩
  · have K1 := show Hid (Calls Tryz.prog 135 #[.pointer (some ⟨p, 0, none⟩)] w fun e w' => Read w p b g cap ts d (.ok a i1 n1) e w') from hp f (Nat.le_refl _) w i n d _ hS hi hn hd hx
    have hf := Sx.rd_fine ts f .both i n d _ hi hx _ _ _ rfl
    have HF := show Hid (i1 ≤ ts.length ∧ n1 ≤ 512 ∧ Sx.rd ts f (.ors a) i1 n1 d = some o) from ⟨hf.2.1, hf.2.2 hn, hk⟩
    clear hp hS hi hn hd hr hx hf hk
    go_enter Tryz.func134, Tryz.ntmps134
    go_wp2_with fail
    refine K1.out.mono ?_
    rintro e w1 ⟨F1, cp1, rfl, hP1, hS1, hk1⟩
    have X1 := show Hid (Pts w1 p b a (.func (.func F1) #[] cp1) ∧ RS w1 p b g cap ts i1 n1 d ∧ KpP p w w1) from ⟨hP1, hS1, hk1⟩
    clear hP1 hS1 hk1 K1
    go_wp2_with fail
    go_loopw [9] (fun v wr => ∃ (a : T) (i n f' F1 : Nat) (cp : Array Value), v = .func (.func F1) #[] cp ∧ Hid (f' ≤ f ∧ Sx.rd ts f' (.ors a) i n d = some o) ∧ Hid (Pts wr p b a (.func (.func F1) #[] cp) ∧ RS wr p b g cap ts i n d ∧ KpP p w wr) ∧ Hid (i ≤ ts.length ∧ n ≤ 512)) (fun _ wr => ts.length - (intOf ((wr.cell? ⟨p, 2, none⟩).getD (.bool false))).toNat)
    case atStart => exact ⟨a, i1, n1, f, F1, cp1, rfl, ⟨Nat.le_refl _, HF.out.2.2⟩, X1.out, ⟨HF.out.1, HF.out.2.1⟩⟩
    case round =>
      clear X1 HF
      obtain ⟨a, i, n, f', F1, cp1, rfl, HR, X, HI⟩ := hrel
      have HM := show Hid ((intOf ((wr.cell? ⟨p, 2, none⟩).getD (.bool false))).toNat = i) from by rw [X.out.2.1.rd.c2]; rfl
      have HC := show Hid (Calls Tryz.prog 87 #[.pointer (some ⟨p, 0, none⟩), .string ⟨#[124]⟩] wr fun e w' => Signed wr p b g cap ts i n d [124] e w') from sign_any wr X.out.2.1 HI.out.2 HI.out.1 ⟨#[124]⟩
      obtain ⟨f'', HR2⟩ : ∃ f'', Hid (f'' ≤ f ∧ (if Sx.sgn (Sx.tk ts i) [124] then Sx.stp ts i n fun n => Sx.bnd (Sx.rd ts f'' .both (i + 1) n d) fun b i n => Sx.rd ts f'' (.ors (.bin 4 a b)) i n d else some (.ok a i n)) = some o) := by
        have hr := HR.out
        cases f' with
        | zero => exact absurd hr.2 (by simp [Sx.rd])
        | succ f'' => exact ⟨f'', by omega, hr.2⟩
      clear HR
      go_wp2_with fail
      refine HC.out.mono ?_
      rintro e w2 (⟨hs, rfl, hb2⟩ | ⟨hs, ⟨hu, rfl, hk2⟩ | ⟨hu, rfl, hS2, hk2⟩⟩)
      · have hk := HR2.out.2
        rw [hs] at hk
        simp only [Bool.false_eq_true, if_false, Option.some.injEq] at hk
        have X2 := show Hid (Pts w2 p b a (.func (.func F1) #[] cp1) ∧ RS w2 p b g cap ts i n d ∧ KpP p w w2) from ⟨X.out.1.later hb2, X.out.2.1.later hb2, X.out.2.2.trans (KpP.of_below hb2)⟩
        have HO := show Hid _ from hk
        clear hs hb2 hk X HC HR2
        go_wp2_with fail
        go_ret
        exact read_ok HO.out.symm X2.out.1 X2.out.2.1 X2.out.2.2
      · have hk := HR2.out.2
        rw [hs] at hk
        simp only [if_true] at hk
        rcases Sx.stp_cases hk with ⟨_, ho⟩ | ⟨hu', _⟩
        · have HO := show Hid (_ ∧ _) from ⟨ho, X.out.2.2.trans hk2⟩
          clear hs hk hu hk2 ho HC HR2 X
          unfold fltP
          go_wp2_with fail
          exact ⟨rfl, read_bad HO.out.1 HO.out.2⟩
        · omega
      · have hk := HR2.out.2
        rw [hs] at hk
        simp only [if_true] at hk
        rcases Sx.stp_cases hk with ⟨hu', _⟩ | ⟨_, hk⟩
        · omega
        have hl := Sx.sgn_lt hs
        rcases Sx.bnd_cases hk with ⟨er, t, hx, rfl⟩ | ⟨a2, i2, n2, hx, hk⟩
        · have K2 := show Hid (Calls Tryz.prog 135 #[.pointer (some ⟨p, 0, none⟩)] w2 fun e w' => Read w2 p b g cap ts d (.bad er t) e w') from HP.out f'' HR2.out.1 w2 _ _ d _ hS2 (by omega) hu HD.out hx
          have X2 := show Hid (KpP p w w2) from X.out.2.2.trans hk2
          clear hs hk hu hk2 HC HR2 X hS2 hx hl HP HD
          go_wp2_with fail
          refine K2.out.mono ?_
          rintro e w3 ⟨rfl, hk⟩
          have HK := show Hid _ from X2.out.trans hk
          clear hk K2 X2
          unfold fltP
          go_wp2_with fail
          exact ⟨rfl, read_bad rfl HK.out⟩
        · have K2 := show Hid (Calls Tryz.prog 135 #[.pointer (some ⟨p, 0, none⟩)] w2 fun e w' => Read w2 p b g cap ts d (.ok a2 i2 n2) e w') from HP.out f'' HR2.out.1 w2 _ _ d _ hS2 (by omega) hu HD.out hx
          have X2 := show Hid (Pts w2 p b a (.func (.func F1) #[] cp1) ∧ RS w2 p b g cap ts (i + 1) (Sx.up ts i n) d ∧ KpP p w w2) from ⟨X.out.1.kpP X.out.2.1.rd hk2, hS2, X.out.2.2.trans hk2⟩
          have hf := Sx.rd_fine ts f'' .both (i + 1) _ d _ (by omega) hx _ _ _ rfl
          have HF := show Hid (i < i2 ∧ i2 ≤ ts.length ∧ n2 ≤ 512 ∧ f'' ≤ f ∧ Sx.rd ts f'' (.ors (.bin 4 a a2)) i2 n2 d = some o) from ⟨by have := hf.1; simp only [Sx.adv] at this; omega, hf.2.1, hf.2.2 hu, HR2.out.1, hk⟩
          clear hs hk hu hk2 HC HR2 X hS2 hx hl hf
          go_wp2_with fail
          refine K2.out.mono ?_
          rintro e w3 ⟨F2, cp2, rfl, hP3, hS3, hk3⟩
          have X3 := show Hid (Pts w3 p b a (.func (.func F1) #[] cp1) ∧ Pts w3 p b a2 (.func (.func F2) #[] cp2) ∧ RS w3 p b g cap ts i2 n2 d ∧ KpP p w w3) from ⟨X2.out.1.kpP X2.out.2.1.rd hk3, hP3, hS3, X2.out.2.2.trans hk3⟩
          clear hP3 hS3 hk3 K2 X2
          go_wp2_with fail
          refine (join_any w3 _ _ _ _ _ _ _ _ _).mono ?_
          rintro e w4 ⟨rfl, hw4⟩
          have HW4 := show Hid (RS w4 p b g cap ts i2 n2 d ∧ Pts w4 p b (.bin 4 a a2) (joinV w3.heap.size) ∧ KpP p w w4) from by
            rw [hw4]
            exact ⟨X3.out.2.2.1.later (joinW_below _ _ _ _), joinW_bin (k := 4) X3.out.1 X3.out.2.1, X3.out.2.2.2.trans (KpP.of_below (joinW_below _ _ _ _))⟩
          have HM2 := show Hid ((intOf ((w4.cell? ⟨p, 2, none⟩).getD (.bool false))).toNat = i2) from by rw [HW4.out.1.rd.c2]; rfl
          clear hw4 X3
          unfold joinV ptrV at *
          go_wp2_with fail
          go_roundw
          case rel => exact ⟨.bin 4 a a2, i2, n2, f'', 113, _, rfl, ⟨HF.out.2.2.2.1, HF.out.2.2.2.2⟩, ⟨HW4.out.2.1, HW4.out.1, HW4.out.2.2⟩, ⟨HF.out.2.1, HF.out.2.2.1⟩⟩
          case measure =>
            have h1 := HM.out
            have h2 := HM2.out
            have h3 := HF.out
            rw [h1, h2]
            omega
set_option maxRecDepth 100000 in
set_option maxHeartbeats 1000000 in
theorem joined_con (f : Nat) (hp : ∀ f' ≤ f, Con p b g cap ts 135 .both f') : Con p b g cap ts 110 .joined (f + 1) := by
  intro w i n d o hS hi hn hd hr
  have hmf := mkFunc
  have K := show Hid (Calls Tryz.prog 134 #[.pointer (some ⟨p, 0, none⟩), .string ⟨#[124]⟩, .func (.func 135) #[.pointer (some ⟨p, 0, none⟩)] #[], .func (.func 136) #[.pointer (some ⟨b, 0, none⟩)] #[]] w fun e w' => Read w p b g cap ts d o e w') from chain_joined f hp w i n d o hS hi hn hd hr
  have c0 := hS.rd.c0
  clear hp hS hi hn hd hr
  cases o with
  | ok a i1 n1 =>
    go_enter Tryz.func110, Tryz.ntmps110
    go_wp2_with fail
    refine K.out.mono ?_
    rintro e w1 ⟨F1, cp1, rfl, hP1, hS1, hk1⟩
    have X1 := show Hid (Pts w1 p b a (.func (.func F1) #[] cp1) ∧ RS w1 p b g cap ts i1 n1 d ∧ KpP p w w1) from ⟨hP1, hS1, hk1⟩
    clear hP1 hS1 hk1 K
    go_wp2_with fail
    go_ret
    exact read_ok rfl X1.out.1 X1.out.2.1 X1.out.2.2
  | bad er t =>
    go_enter Tryz.func110, Tryz.ntmps110
    go_wp2_with fail
    refine K.out.mono ?_
    rintro e w1 ⟨rfl, hk⟩
    have HK := show Hid _ from hk
    clear hk K
    unfold fltP
    go_wp2_with fail
    exact ⟨rfl, read_bad rfl HK.out⟩
set_option maxRecDepth 100000 in
set_option maxHeartbeats 4000000 in
theorem chain_both (f : Nat) (hp : ∀ f' ≤ f, Con p b g cap ts 145 .single f') (w : World) (i n d : Nat) (o : Sx.Out) (hS : RS w p b g cap ts i n d) (hi : i ≤ ts.length) (hn : n ≤ 512) (hd : d ≤ 1024) (hr : Sx.rd ts (f + 1) .both i n d = some o) :
    Calls Tryz.prog 134 #[.pointer (some ⟨p, 0, none⟩), .string ⟨#[38]⟩, .func (.func 145) #[.pointer (some ⟨p, 0, none⟩)] #[], .func (.func 115) #[.pointer (some ⟨b, 0, none⟩)] #[]] w fun e w' => Read w p b g cap ts d o e w' := by
  have HP := show Hid (∀ f' ≤ f, Con p b g cap ts 145 .single f') from hp
  have HD := show Hid (d ≤ 1024) from hd
  rcases Sx.bnd_cases hr with ⟨er, t, hx, rfl⟩ | ⟨a, i1, n1, hx, hk⟩
  · have K1 := show Hid (Calls Tryz.prog 145 #[.pointer (some ⟨p, 0, none⟩)] w fun e w' => Read w p b g cap ts d (.bad er t) e w') from hp f (Nat.le_refl _) w i n d _ hS hi hn hd hx
    clear hp hS hi hn hd hr hx HP
    go_enter Tryz.func134, Tryz.ntmps134
    go_wp2_with fail
    refine K1.out.mono ?_
    rintro e w1 ⟨rfl, hk⟩
    have HK := show Hid _ from hk
    clear hk K1
    unfold fltP
    go_wp2_with fail
    exact ⟨rfl, read_bad rfl HK.out⟩
  · have K1 := show Hid (Calls Tryz.prog 145 #[.pointer (some ⟨p, 0, none⟩)] w fun e w' => Read w p b g cap ts d (.ok a i1 n1) e w') from hp f (Nat.le_refl _) w i n d _ hS hi hn hd hx
    have hf := Sx.rd_fine ts f .single i n d _ hi hx _ _ _ rfl
    have HF := show Hid (i1 ≤ ts.length ∧ n1 ≤ 512 ∧ Sx.rd ts f (.ands a) i1 n1 d = some o) from ⟨hf.2.1, hf.2.2 hn, hk⟩
    clear hp hS hi hn hd hr hx hf hk
    go_enter Tryz.func134, Tryz.ntmps134
    go_wp2_with fail
    refine K1.out.mono ?_
    rintro e w1 ⟨F1, cp1, rfl, hP1, hS1, hk1⟩
    have X1 := show Hid (Pts w1 p b a (.func (.func F1) #[] cp1) ∧ RS w1 p b g cap ts i1 n1 d ∧ KpP p w w1) from ⟨hP1, hS1, hk1⟩
    clear hP1 hS1 hk1 K1
    go_wp2_with fail
    go_loopw [9] (fun v wr => ∃ (a : T) (i n f' F1 : Nat) (cp : Array Value), v = .func (.func F1) #[] cp ∧ Hid (f' ≤ f ∧ Sx.rd ts f' (.ands a) i n d = some o) ∧ Hid (Pts wr p b a (.func (.func F1) #[] cp) ∧ RS wr p b g cap ts i n d ∧ KpP p w wr) ∧ Hid (i ≤ ts.length ∧ n ≤ 512)) (fun _ wr => ts.length - (intOf ((wr.cell? ⟨p, 2, none⟩).getD (.bool false))).toNat)
    case atStart => exact ⟨a, i1, n1, f, F1, cp1, rfl, ⟨Nat.le_refl _, HF.out.2.2⟩, X1.out, ⟨HF.out.1, HF.out.2.1⟩⟩
    case round =>
      clear X1 HF
      obtain ⟨a, i, n, f', F1, cp1, rfl, HR, X, HI⟩ := hrel
      have HM := show Hid ((intOf ((wr.cell? ⟨p, 2, none⟩).getD (.bool false))).toNat = i) from by rw [X.out.2.1.rd.c2]; rfl
      have HC := show Hid (Calls Tryz.prog 87 #[.pointer (some ⟨p, 0, none⟩), .string ⟨#[38]⟩] wr fun e w' => Signed wr p b g cap ts i n d [38] e w') from sign_any wr X.out.2.1 HI.out.2 HI.out.1 ⟨#[38]⟩
      obtain ⟨f'', HR2⟩ : ∃ f'', Hid (f'' ≤ f ∧ (if Sx.sgn (Sx.tk ts i) [38] then Sx.stp ts i n fun n => Sx.bnd (Sx.rd ts f'' .single (i + 1) n d) fun b i n => Sx.rd ts f'' (.ands (.bin 3 a b)) i n d else some (.ok a i n)) = some o) := by
        have hr := HR.out
        cases f' with
        | zero => exact absurd hr.2 (by simp [Sx.rd])
        | succ f'' => exact ⟨f'', by omega, hr.2⟩
      clear HR
      go_wp2_with fail
      refine HC.out.mono ?_
      rintro e w2 (⟨hs, rfl, hb2⟩ | ⟨hs, ⟨hu, rfl, hk2⟩ | ⟨hu, rfl, hS2, hk2⟩⟩)
      · have hk := HR2.out.2
        rw [hs] at hk
        simp only [Bool.false_eq_true, if_false, Option.some.injEq] at hk
        have X2 := show Hid (Pts w2 p b a (.func (.func F1) #[] cp1) ∧ RS w2 p b g cap ts i n d ∧ KpP p w w2) from ⟨X.out.1.later hb2, X.out.2.1.later hb2, X.out.2.2.trans (KpP.of_below hb2)⟩
        have HO := show Hid _ from hk
        clear hs hb2 hk X HC HR2
        go_wp2_with fail
        go_ret
        exact read_ok HO.out.symm X2.out.1 X2.out.2.1 X2.out.2.2
      · have hk := HR2.out.2
        rw [hs] at hk
        simp only [if_true] at hk
        rcases Sx.stp_cases hk with ⟨_, ho⟩ | ⟨hu', _⟩
        · have HO := show Hid (_ ∧ _) from ⟨ho, X.out.2.2.trans hk2⟩
          clear hs hk hu hk2 ho HC HR2 X
          unfold fltP
          go_wp2_with fail
          exact ⟨rfl, read_bad HO.out.1 HO.out.2⟩
        · omega
      · have hk := HR2.out.2
        rw [hs] at hk
        simp only [if_true] at hk
        rcases Sx.stp_cases hk with ⟨hu', _⟩ | ⟨_, hk⟩
        · omega
        have hl := Sx.sgn_lt hs
        rcases Sx.bnd_cases hk with ⟨er, t, hx, rfl⟩ | ⟨a2, i2, n2, hx, hk⟩
        · have K2 := show Hid (Calls Tryz.prog 145 #[.pointer (some ⟨p, 0, none⟩)] w2 fun e w' => Read w2 p b g cap ts d (.bad er t) e w') from HP.out f'' HR2.out.1 w2 _ _ d _ hS2 (by omega) hu HD.out hx
          have X2 := show Hid (KpP p w w2) from X.out.2.2.trans hk2
          clear hs hk hu hk2 HC HR2 X hS2 hx hl HP HD
          go_wp2_with fail
          refine K2.out.mono ?_
          rintro e w3 ⟨rfl, hk⟩
          have HK := show Hid _ from X2.out.trans hk
          clear hk K2 X2
          unfold fltP
          go_wp2_with fail
          exact ⟨rfl, read_bad rfl HK.out⟩
        · have K2 := show Hid (Calls Tryz.prog 145 #[.pointer (some ⟨p, 0, none⟩)] w2 fun e w' => Read w2 p b g cap ts d (.ok a2 i2 n2) e w') from HP.out f'' HR2.out.1 w2 _ _ d _ hS2 (by omega) hu HD.out hx
          have X2 := show Hid (Pts w2 p b a (.func (.func F1) #[] cp1) ∧ RS w2 p b g cap ts (i + 1) (Sx.up ts i n) d ∧ KpP p w w2) from ⟨X.out.1.kpP X.out.2.1.rd hk2, hS2, X.out.2.2.trans hk2⟩
          have hf := Sx.rd_fine ts f'' .single (i + 1) _ d _ (by omega) hx _ _ _ rfl
          have HF := show Hid (i < i2 ∧ i2 ≤ ts.length ∧ n2 ≤ 512 ∧ f'' ≤ f ∧ Sx.rd ts f'' (.ands (.bin 3 a a2)) i2 n2 d = some o) from ⟨by have := hf.1; simp only [Sx.adv] at this; omega, hf.2.1, hf.2.2 hu, HR2.out.1, hk⟩
          clear hs hk hu hk2 HC HR2 X hS2 hx hl hf
          go_wp2_with fail
          refine K2.out.mono ?_
          rintro e w3 ⟨F2, cp2, rfl, hP3, hS3, hk3⟩
          have X3 := show Hid (Pts w3 p b a (.func (.func F1) #[] cp1) ∧ Pts w3 p b a2 (.func (.func F2) #[] cp2) ∧ RS w3 p b g cap ts i2 n2 d ∧ KpP p w w3) from ⟨X2.out.1.kpP X2.out.2.1.rd hk3, hP3, hS3, X2.out.2.2.trans hk3⟩
          clear hP3 hS3 hk3 K2 X2
          go_wp2_with fail
          refine (join_any w3 _ _ _ _ _ _ _ _ _).mono ?_
          rintro e w4 ⟨rfl, hw4⟩
          have HW4 := show Hid (RS w4 p b g cap ts i2 n2 d ∧ Pts w4 p b (.bin 3 a a2) (joinV w3.heap.size) ∧ KpP p w w4) from by
            rw [hw4]
            exact ⟨X3.out.2.2.1.later (joinW_below _ _ _ _), joinW_bin (k := 3) X3.out.1 X3.out.2.1, X3.out.2.2.2.trans (KpP.of_below (joinW_below _ _ _ _))⟩
          have HM2 := show Hid ((intOf ((w4.cell? ⟨p, 2, none⟩).getD (.bool false))).toNat = i2) from by rw [HW4.out.1.rd.c2]; rfl
          clear hw4 X3
          unfold joinV ptrV at *
          go_wp2_with fail
          go_roundw
          case rel => exact ⟨.bin 3 a a2, i2, n2, f'', 113, _, rfl, ⟨HF.out.2.2.2.1, HF.out.2.2.2.2⟩, ⟨HW4.out.2.1, HW4.out.1, HW4.out.2.2⟩, ⟨HF.out.2.1, HF.out.2.2.1⟩⟩
          case measure =>
            have h1 := HM.out
            have h2 := HM2.out
            have h3 := HF.out
            rw [h1, h2]
            omega
set_option maxRecDepth 100000 in
set_option maxHeartbeats 1000000 in
theorem both_con (f : Nat) (hp : ∀ f' ≤ f, Con p b g cap ts 145 .single f') : Con p b g cap ts 135 .both (f + 1) := by
  intro w i n d o hS hi hn hd hr
  have hmf := mkFunc
  have K := show Hid (Calls Tryz.prog 134 #[.pointer (some ⟨p, 0, none⟩), .string ⟨#[38]⟩, .func (.func 145) #[.pointer (some ⟨p, 0, none⟩)] #[], .func (.func 115) #[.pointer (some ⟨b, 0, none⟩)] #[]] w fun e w' => Read w p b g cap ts d o e w') from chain_both f hp w i n d o hS hi hn hd hr
  have c0 := hS.rd.c0
  clear hp hS hi hn hd hr
  cases o with
  | ok a i1 n1 =>
    go_enter Tryz.func135, Tryz.ntmps135
    go_wp2_with fail
    refine K.out.mono ?_
    rintro e w1 ⟨F1, cp1, rfl, hP1, hS1, hk1⟩
    have X1 := show Hid (Pts w1 p b a (.func (.func F1) #[] cp1) ∧ RS w1 p b g cap ts i1 n1 d ∧ KpP p w w1) from ⟨hP1, hS1, hk1⟩
    clear hP1 hS1 hk1 K
    go_wp2_with fail
    go_ret
    exact read_ok rfl X1.out.1 X1.out.2.1 X1.out.2.2
  | bad er t =>
    go_enter Tryz.func135, Tryz.ntmps135
    go_wp2_with fail
    refine K.out.mono ?_
    rintro e w1 ⟨rfl, hk⟩
    have HK := show Hid _ from hk
    clear hk K
    unfold fltP
    go_wp2_with fail
    exact ⟨rfl, read_bad rfl HK.out⟩
end
end Go.Proofs.YtcidldgenogdkaaGreatDoor

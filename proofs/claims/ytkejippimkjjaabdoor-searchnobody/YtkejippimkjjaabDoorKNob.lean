/-
  The law SearchNobody: Run at a table that no call made refuses; two empty findings are the same. Where the table of TrailingZeros stands as the program's text lays it.
-/
import Derived.Test.YtkejippimkjjaabDoorKG8
import Derived.Test.YtkejippimkjjaabDoorZG9
import Derived.Test.YtkejippimkjjaabDoorFG2
namespace Go.Proofs.YtkejippimkjjaabDoor
open Go.RowKit Go.Shelf Go.Maps
open Fm (Nd)
open Bt.Bs (Ok wd)
set_option linter.unusedSimpArgs false

def Nob (w : World) (pv : Value) : Prop := ∀ w', Below w.heap.size w w' → Calls Tryd.prog 18 #[pv] w' fun e w'' => e = .returned (.bool false) ∧ w'' = w'
theorem Nob.later {w w1 : World} {pv : Value} (h : Nob w pv) (hb : Below w.heap.size w w1) : Nob w1 pv := fun w' hb' => h w' (hb.trans (hb'.mono hb.size))
theorem nob_nil (w : World) : Nob w (.pointer none) := fun w' _ => made_nil w'
theorem nob_zero (w : World) (b : Nat) (h : w.heap[b]? = some (.cells #[.slice none 0 0, .map none] 37 (0, 0))) : Nob w (.pointer (some ⟨b, 0, none⟩)) := fun w' hb => made_any w' b none (by rw [cell_of_row _ _ 1 _ _ _ ((hb.block b (lt_of_block h)).trans h)]; rfl)
set_option maxHeartbeats 400000 in
theorem below_none (w : World) {pv : Value} (h : Nob w pv) (x : Int) :
    Calls Tryd.prog 22 #[pv, .int .i64 x] w fun e w' => e = .returned (.tuple #[.slice none 0 0, .int .i64 1]) ∧ w' = w := by
  have K := show Hid (Calls Tryd.prog 18 #[pv] w fun e w'' => e = .returned (.bool false) ∧ w'' = w) from h w (Below.refl _ _)
  clear h
  go_enter Tryd.func22, Tryd.ntmps22
  go_wp2_with fail
  refine K.out.mono ?_
  rintro e w1 ⟨rfl, hw⟩
  subst w1
  go_wp2_with fail
  go_ret2
  exact ⟨rfl, rfl⟩
set_option maxRecDepth 100000 in
set_option maxHeartbeats 1000000 in
theorem refused_none (w : World) {q0 : Option Addr} (h : Nob w (.pointer q0)) {r : List Nat} (g : Int) :
    Calls Tryd.prog 14 #[.pointer q0, .agg (cellsQ r g)] w fun e w' => e = .returned (.int .i64 1) ∧ Below w.heap.size w w' := by
  have HN := show Hid (Nob w (.pointer q0)) from h
  clear h
  go_enter Tryd.func14, Tryd.ntmps14
  go_wp2_with (refine wpList_box 26 _ rfl _ rfl rfl ?_)
  intro w1 b3 hn1
  have K := show Hid _ from below_none w1 (Nob.later HN.out hn1.bel) (-1)
  have HB := show Hid _ from hn1.bel
  clear hn1 HN
  go_wp2_with fail
  refine Calls.mono K.out ?_
  rintro e w2 ⟨rfl, hw⟩
  subst w2
  go_wp2_with fail
  go_ret
  exact ⟨rfl, HB.out⟩
set_option maxRecDepth 100000 in
set_option maxHeartbeats 1000000 in
theorem apply_none (w0 : World) {q0 : Option Addr} (h : Nob w0 (.pointer q0)) {r : List Nat} (hl : r.length = 16) (g : Int) :
    Calls Tryd.prog 7 #[.pointer q0, .agg (cellsQ r g)] w0 fun e w' => e = .returned (.tuple #[.int .i64 0, .int .i64 0, .int .i64 1]) ∧ Below w0.heap.size w0 w' := by
  have HNO := show Hid (Nob w0 (.pointer q0)) from h
  clear h
  refine (callsIn_wide (n := 5)).1 ?_
  refine callsIn_of_wp_marks Tryd.func7 rfl trivial ?_ rfl
  simp only [Tryd.ntmps7, List.size_toArray, List.length_cons, List.length_nil, Nat.reduceAdd, Nat.reduceSub, Array.replicate_succ, Array.replicate_zero, List.push_toArray, List.append_toArray, List.nil_append, List.cons_append]
  refine wpIn_wide.2 ?_
  go_wp2_with (refine wpList_box 26 _ rfl _ rfl rfl ?_)
  intro w1 b3 hn1
  go_wp2_with (refine wpList_alloc1 41 rfl _ zeroRule rfl rfl ?_)
  intro w2 b4 hn2
  go_wp2_with (refine wpList_alloc1 3 rfl _ zeroInt rfl rfl ?_)
  intro w3 b5 hn3
  go_wp2_with (refine wpList_alloc1 31 rfl _ zeroErr rfl rfl ?_)
  intro w4 b6 hn4
  have H4 := show Hid (AP w0 w4 b3 b4 b5 b6 r g 0 0 0) from
    ⟨((Cl.new (Cl.new hn1.blk hn2) hn3).new hn4), (Cl.new (Cl.new hn2.blk hn3) hn4), Cl.new hn3.blk hn4, hn4.blk, bel_new (bel_new (bel_new hn1.bel hn2) hn3) hn4⟩
  have HN := show Hid (APn w0 b3 b4 b5 b6) from (by
    have e1 := hn1.ge; have e2 := hn1.up; have e3 := hn2.ge; have e4 := hn2.up; have e5 := hn3.ge; have e6 := hn3.up; have e7 := hn4.ge
    exact ⟨e1, by omega, by omega, by omega⟩)
  clear hn1 hn2 hn3 hn4
  have KR := show Hid _ from refused_none w4 (Nob.later HNO.out H4.out.bel) (r := r) g
  go_wp2_with (refine wpList_ldQQ _ _ rfl b3 rfl H4.out.s hl rfl ?_)
  refine Calls.mono KR.out ?_
  rintro e w5 ⟨rfl, hb5⟩
  have H5 := show Hid _ from H4.out.later hb5
  clear H4 hb5 KR
  have c4 := H5.out.x4.cell; have f4 := H5.out.x4.frozen
  have hne := HN.out
  have c5 := (H5.out.x5.other (show b5 ≠ b4 by have := hne.g5; omega) (.int .i64 0)).cell
  have f5 := (H5.out.x5.other (show b5 ≠ b4 by have := hne.g5; omega) (.int .i64 0)).frozen
  have c6 := ((H5.out.x6.other (show b6 ≠ b4 by have := hne.g5; have := hne.g6; omega) (.int .i64 0)).other (show b6 ≠ b5 by have := hne.g6; omega) (.int .i64 0)).cell
  have f6 := ((H5.out.x6.other (show b6 ≠ b4 by have := hne.g5; have := hne.g6; omega) (.int .i64 0)).other (show b6 ≠ b5 by have := hne.g6; omega) (.int .i64 0)).frozen
  clear hne
  go_wp2_with fail
  have hs := H5.out.set HN.out 0 0 1
  exact ⟨_, results_ap rfl _ _ rfl rfl rfl hs.x4 hs.x5 hs.x6, rfl, hs.bel⟩
set_option maxRecDepth 100000 in
set_option maxHeartbeats 2000000 in
theorem run_none (w : World) {q0 : Option Addr} (h : Nob w (.pointer q0)) {r : List Nat} (hl : r.length = 16) (g bud : Int) :
    Calls Tryd.prog 4 #[.pointer q0, .agg (cellsQ r g), .int .i64 bud] w fun e w' => e = .returned (.tuple #[.agg (fndC false (.slice none 0 0) 0), .int .i64 1]) ∧ Below w.heap.size w w' := by
  have HN := show Hid (Nob w (.pointer q0)) from h
  clear h
  go_enter Tryd.func4, Tryd.ntmps4
  go_wp2_with (refine wpList_box 26 _ rfl _ rfl rfl ?_)
  intro w1 b4 hn1
  go_wp2_with (refine wpList_alloc 30 rfl _ zeroFnd rfl ?_)
  intro w2 b6 hn2
  have H2 := show Hid (RL w w2 b4 b6 (r, g)) from ⟨Cl.new hn1.blk hn2, hn2.blk, bel_new hn1.bel hn2, by have := hn1.bel.size; have := hn2.ge; omega⟩
  clear hn1 hn2
  have KA := show Hid _ from apply_none w2 (Nob.later HN.out H2.out.bel) hl g
  go_wp2_with (refine wpList_ldQQ _ _ rfl b4 rfl H2.out.s4 hl rfl ?_)
  refine Calls.mono KA.out ?_
  rintro e w3 ⟨rfl, hb3⟩
  have H3 := show Hid _ from H2.out.later hb3
  clear H2 hb3 KA
  go_wp2_with (first | (refine wpList_bldF0 rfl rfl ?_) | (refine wpList_st 30 rfl rfl _ _ rfl b6 rfl _ rfl _ _ H3.out.c6 (by rw [sizeF]; rfl) rfl (fndC_all ..) ?_))
  intro w4 hc4 hk4
  go_wp2_with fail
  refine bodyPost_ret (results_fnd rfl _ _ b6 rfl hc4 rfl) rfl ?_
  exact ⟨rfl, bel_kp H3.out.bel hk4 H3.out.g6⟩
set_option maxRecDepth 100000 in
set_option maxHeartbeats 2000000 in
theorem steps_nil (w : World) : Calls Tryd.prog 11 #[.slice none 0 0, .slice none 0 0] w fun e w' => e = .returned (.bool true) ∧ Below w.heap.size w w' := by
  go_enter Tryd.func11, Tryd.ntmps11
  go_wp2_with fail
  go_loopw [5] (fun iv wr => iv = .int .i64 0 ∧ wr = w) (fun _ _ => 0)
  case atStart => exact ⟨rfl, rfl⟩
  case round =>
    obtain ⟨rfl, hw⟩ := hrel
    subst hw
    go_wp2_with fail
    go_ret
    exact ⟨rfl, Below.refl _ _⟩
set_option maxRecDepth 100000 in
set_option maxHeartbeats 2000000 in
theorem same_nil (w : World) : Calls Tryd.prog 5 #[.agg (fndC false (.slice none 0 0) 0), .agg (fndC false (.slice none 0 0) 0)] w fun e w' => e = .returned (.bool true) ∧ Below w.heap.size w w' := by
  have KS := show Hid (∀ W : World, Calls Tryd.prog 11 #[.slice none 0 0, .slice none 0 0] W fun e w' => e = .returned (.bool true) ∧ Below W.heap.size W w') from steps_nil
  go_enter Tryd.func5, Tryd.ntmps5
  go_wp2_with (refine wpList_box 30 _ rfl _ rfl rfl ?_)
  intro w1 b2 hn1
  go_wp2_with (refine wpList_box 30 _ rfl _ rfl rfl ?_)
  intro w2 b3 hn2
  have hc2 : Cl w2 b2 (fndC false (.slice none 0 0) 0) 30 := Cl.new hn1.blk hn2
  have hc3 : Cl w2 b3 (fndC false (.slice none 0 0) 0) 30 := hn2.blk
  have a0 : w2.cell? ⟨b2, 0, none⟩ = some (.bool false) := hc2.cell 0
  have a1 : w2.cell? ⟨b2, 1, none⟩ = some (.slice none 0 0) := hc2.cell 1
  have a2 : w2.cell? ⟨b2, 2, none⟩ = some (.int .i64 0) := hc2.cell 2
  have d0 : w2.cell? ⟨b3, 0, none⟩ = some (.bool false) := hc3.cell 0
  have d1 : w2.cell? ⟨b3, 1, none⟩ = some (.slice none 0 0) := hc3.cell 1
  have d2 : w2.cell? ⟨b3, 2, none⟩ = some (.int .i64 0) := hc3.cell 2
  have HB := show Hid (Below w.heap.size w w2) from bel_new hn1.bel hn2
  clear hn1 hn2 hc2 hc3
  go_wp2_with fail
  refine Calls.mono (KS.out _) ?_
  rintro e w3 ⟨rfl, hb3⟩
  have HB3 := show Hid (Below w.heap.size w w3) from HB.out.trans (hb3.mono HB.out.size)
  clear hb3 HB a0 a1 a2 d0 d1 d2 KS
  go_wp2_with fail
  go_ret
  exact ⟨rfl, HB3.out⟩
theorem bldTab (w : World) : (Instr.build 37 #[]).run Tryd.prog w = .ok (.agg #[.slice none 0 0, .map none]) w := by kernel_rfl
section
variable {ops : Array Oper} {rest : List Oper} {o : Oper} {a : Act} {Q : Exit → Act → World → Prop} {w : World}
theorem wpList_bldTab (hg : o.guard = none) (hop : o.op = Op.build 37 #[]) (hK : wpList Tryd.prog ops Q rest (a.put o.dst (.agg #[.slice none 0 0, .map none])) w) : wpList Tryd.prog ops Q (o :: rest) a w := by
  refine wpList_plain hg fun K' hK' => ?_
  have hrun := bldTab w
  unfold Oper.wp
  simp [execOp, hop, hrun, Result.andThen]
  exact hK' _ _ hK
theorem wpList_bldF0W (hg : Region.wanted o (yielded ops a.tmps) = true) (hop : o.op = Op.build 30 #[]) (hK : wpList Tryd.prog ops Q rest (a.put o.dst (.agg (fndC false (.slice none 0 0) 0))) w) : wpList Tryd.prog ops Q (o :: rest) a w := by
  refine Bt.wpList_want hg fun K' hK' => ?_
  have hrun := bldF0 w
  unfold Oper.wp
  simp [execOp, hop, hrun, Result.andThen]
  exact hK' _ _ hK
end
set_option maxRecDepth 100000 in
set_option maxHeartbeats 2000000 in
theorem searchNobody_any (w : World) {r : List Nat} (hr : Ok r) (g bud : Int) (hZ : Bt.Tz w) :
    Calls Tryd.prog 3 #[.agg (cellsQ r g), .int .i64 bud] w fun e w' => e = .returned (.bool true) ∧ Below w.heap.size w w' := by
  have hl := hr.1
  have KR := show Hid (∀ (W : World) (q0 : Option Addr), Nob W (.pointer q0) → Calls Tryd.prog 4 #[.pointer q0, .agg (cellsQ r g), .int .i64 bud] W fun e w' => e = .returned (.tuple #[.agg (fndC false (.slice none 0 0) 0), .int .i64 1]) ∧ Below W.heap.size W w') from fun W q0 h => run_none W h hl g bud
  have KS := show Hid (∀ W : World, Calls Tryd.prog 5 #[.agg (fndC false (.slice none 0 0) 0), .agg (fndC false (.slice none 0 0) 0)] W fun e w' => e = .returned (.bool true) ∧ Below W.heap.size W w') from same_nil
  have KH := show Hid (∀ w' : World, Below w.heap.size w w' → Calls Tryd.prog 6 #[] w' fun e w'' => e = .returned (.bool true) ∧ Below w'.heap.size w' w'') from fun w' hb => heads11_any w' (Bt.tz_block hZ hb)
  clear hZ hr
  go_enter Tryd.func3, Tryd.ntmps3
  go_wp2_with (refine wpList_box 26 _ rfl _ rfl rfl ?_)
  intro w1 b2 hn1
  have H1 := show Hid (SeqAt w1 b2 r g ∧ Below w.heap.size w w1) from ⟨hn1.blk, hn1.bel⟩
  clear hn1
  go_wp2_with (refine wpList_ldQQ _ _ rfl b2 rfl H1.out.1 hl rfl ?_)
  refine Calls.mono (KR.out w1 none (nob_nil w1)) ?_
  rintro e w2 ⟨rfl, hb2⟩
  have H2 := show Hid (SeqAt w2 b2 r g ∧ Below w.heap.size w w2) from ⟨H1.out.1.later hb2 H1.out.1.lt, H1.out.2.trans (hb2.mono H1.out.2.size)⟩
  clear hb2 H1
  go_wp2_with (refine wpList_alloc 30 rfl _ zeroFnd rfl ?_)
  intro w3 b6 hn3
  go_wp2_with (refine wpList_st 30 rfl rfl _ _ rfl b6 rfl _ rfl _ _ hn3.blk (by rw [sizeF]; rfl) rfl (fndC_all ..) ?_)
  intro w4 hc4 hk4
  have hb4 : Below w2.heap.size w2 w4 := bel_kp hn3.bel hk4 hn3.ge
  have H4 := show Hid (SeqAt w4 b2 r g ∧ Cl w4 b6 (fndC false (.slice none 0 0) 0) 30 ∧ Below w.heap.size w w4) from ⟨H2.out.1.later hb4 H2.out.1.lt, hc4, H2.out.2.trans (hb4.mono H2.out.2.size)⟩
  clear hn3 hc4 hk4 hb4 H2
  go_wp2_with (first | (refine wpList_bldTab rfl rfl ?_) | (refine wpList_box 37 _ rfl _ rfl rfl ?_))
  intro w5 bt hn5
  have H5 := show Hid (SeqAt w5 b2 r g ∧ Cl w5 b6 (fndC false (.slice none 0 0) 0) 30 ∧ Below w.heap.size w w5) from ⟨H4.out.1.later hn5.bel H4.out.1.lt, H4.out.2.1.later hn5.bel, H4.out.2.2.trans (hn5.bel.mono H4.out.2.2.size)⟩
  have K5 := show Hid _ from KR.out w5 (some ⟨bt, 0, none⟩) (nob_zero w5 bt hn5.blk)
  clear hn5 H4 KR
  go_wp2_with (refine wpList_ldQQ _ _ rfl b2 rfl H5.out.1 hl rfl ?_)
  refine Calls.mono K5.out ?_
  rintro e w6 ⟨rfl, hb6⟩
  have H6 := show Hid (Cl w6 b6 (fndC false (.slice none 0 0) 0) 30 ∧ Below w.heap.size w w6) from ⟨H5.out.2.1.later hb6, H5.out.2.2.trans (hb6.mono H5.out.2.2.size)⟩
  clear hb6 H5 K5
  go_wp2_with (refine wpList_alloc 30 rfl _ zeroFnd rfl ?_)
  intro w7 b8 hn7
  go_wp2_with (refine wpList_st 30 rfl rfl _ _ rfl b8 rfl _ rfl _ _ hn7.blk (by rw [sizeF]; rfl) rfl (fndC_all ..) ?_)
  intro w8 hc8 hk8
  have hb8 : Below w6.heap.size w6 w8 := bel_kp hn7.bel hk8 hn7.ge
  have H8 := show Hid (Cl w8 b6 (fndC false (.slice none 0 0) 0) 30 ∧ Cl w8 b8 (fndC false (.slice none 0 0) 0) 30 ∧ Below w.heap.size w w8) from ⟨H6.out.1.later hb8, hc8, H6.out.2.trans (hb8.mono H6.out.2.size)⟩
  clear hn7 hc8 hk8 hb8 H6
  go_wp2_with (first | (refine wpList_ldw 30 _ rfl b6 rfl _ _ H8.out.1 rfl Tryd.underlying30 (by rw [sizeF]; rfl) rfl ?_) | (refine wpList_bldF0W rfl rfl ?_))
  refine Calls.mono (KS.out w8) ?_
  rintro e w9 ⟨rfl, hb9⟩
  have H9 := show Hid (Cl w9 b8 (fndC false (.slice none 0 0) 0) 30 ∧ Below w.heap.size w w9) from ⟨H8.out.2.1.later hb9, H8.out.2.2.trans (hb9.mono H8.out.2.2.size)⟩
  clear hb9 H8
  go_wp2_with (first | (refine wpList_ldw 30 _ rfl b8 rfl _ _ H9.out.1 rfl Tryd.underlying30 (by rw [sizeF]; rfl) rfl ?_) | (refine wpList_bldF0W rfl rfl ?_))
  refine Calls.mono (KS.out w9) ?_
  rintro e w10 ⟨rfl, hb10⟩
  have HB10 := show Hid (Below w.heap.size w w10) from H9.out.2.trans (hb10.mono H9.out.2.size)
  clear hb10 H9 KS
  go_wp2_with fail
  refine Calls.mono (KH.out _ HB10.out) ?_
  rintro e w11 ⟨rfl, hb11⟩
  have HB := show Hid (Below w.heap.size w w11) from HB10.out.trans (hb11.mono HB10.out.size)
  clear hb11 HB10 KH
  go_wp2_with fail
  go_ret
  exact ⟨rfl, HB.out⟩
end Go.Proofs.YtkejippimkjjaabDoor

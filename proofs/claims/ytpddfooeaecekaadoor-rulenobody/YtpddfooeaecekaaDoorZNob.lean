/-
  The calls of rule at a table that no call made: each refuses. No other condition than that the sets have their 16 words.
-/
import Derived.Test.YtpddfooeaecekaaDoorZHeads
namespace Go.Proofs.YtpddfooeaecekaaDoor
open Go.RowKit Go.Shelf Go.Maps
open Fm (Nd)
open Bt.Bs (Ok wd)
set_option linter.unusedSimpArgs false

def Nob (w : World) (pv : Value) : Prop := ∀ w', Below w.heap.size w w' → Calls Tryd.prog 24 #[pv] w' fun e w'' => e = .returned (.bool false) ∧ w'' = w'
theorem Nob.later {w w1 : World} {pv : Value} (h : Nob w pv) (hb : Below w.heap.size w w1) : Nob w1 pv := fun w' hb' => h w' (hb.trans (hb'.mono hb.size))
theorem nob_nil (w : World) : Nob w (.pointer none) := fun w' _ => made_nil w'
theorem nob_zero (w : World) (b : Nat) (h : w.heap[b]? = some (.cells #[.slice none 0 0, .map none] 53 (0, 0))) : Nob w (.pointer (some ⟨b, 0, none⟩)) := fun w' hb => made_any w' b none (by rw [cell_of_row _ _ 1 _ _ _ ((hb.block b (lt_of_block h)).trans h)]; rfl)
set_option maxHeartbeats 400000 in
theorem below_none (w : World) {pv : Value} (h : Nob w pv) (x : Int) :
    Calls Tryd.prog 44 #[pv, .int .i64 x] w fun e w' => e = .returned (.tuple #[.slice none 0 0, .int .i64 1]) ∧ w' = w := by
  have K := show Hid (Calls Tryd.prog 24 #[pv] w fun e w'' => e = .returned (.bool false) ∧ w'' = w) from h w (Below.refl _ _)
  clear h
  go_enter Tryd.func44, Tryd.ntmps44
  go_wp2_with fail
  refine K.out.mono ?_
  rintro e w1 ⟨rfl, hw⟩
  subst w1
  go_wp2_with fail
  go_ret2
  exact ⟨rfl, rfl⟩
set_option maxRecDepth 100000 in
set_option maxHeartbeats 1000000 in
theorem refused_none (w : World) {q0 : Option Addr} (h : Nob w (.pointer q0)) {r : List Nat} (g : Int) :
    Calls Tryd.prog 31 #[.pointer q0, .agg (cellsQ r g)] w fun e w' => e = .returned (.int .i64 1) ∧ Below w.heap.size w w' := by
  have HN := show Hid (Nob w (.pointer q0)) from h
  clear h
  go_enter Tryd.func31, Tryd.ntmps31
  go_wp2_with (refine wpList_box 27 _ rfl _ rfl rfl ?_)
  intro w1 b3 hn1
  have K := show Hid _ from below_none w1 (Nob.later HN.out hn1.bel) (-1)
  have HB := show Hid _ from hn1.bel
  clear hn1 HN
  go_wp2_with fail
  refine Calls.mono K.out ?_
  rintro e w2 ⟨rfl, hw⟩
  subst w2
  go_wp2_with fail
  go_ret
  exact ⟨rfl, HB.out⟩
set_option maxRecDepth 100000 in
set_option maxHeartbeats 1000000 in
theorem fits_none (w : World) {q0 : Option Addr} (h : Nob w (.pointer q0)) {r : List Nat} (hl : r.length = 16) (g ru main : Int) :
    Calls Tryd.prog 22 #[.pointer q0, .agg (cellsQ r g), .int .i64 ru, .int .i64 main] w fun e w' => e = .returned (.tuple #[.bool false, .int .i64 1]) ∧ Below w.heap.size w w' := by
  have HN := show Hid (Nob w (.pointer q0)) from h
  clear h
  go_enter Tryd.func22, Tryd.ntmps22
  go_wp2_with (refine wpList_box 27 _ rfl _ rfl rfl ?_)
  intro w1 b5 hn1
  have H1 := show Hid (RS1 w w1 b5 r g) from ⟨hn1.blk, hn1.bel, hn1.ge⟩
  have KR := show Hid _ from refused_none w1 (Nob.later HN.out hn1.bel) (r := r) g
  clear hn1 HN
  go_wp2_with (refine wpList_ldQQ _ _ rfl b5 rfl H1.out.s hl rfl ?_)
  refine Calls.mono KR.out ?_
  rintro e w2 ⟨rfl, hb2⟩
  have H2 := show Hid _ from H1.out.later hb2
  clear H1 hb2 KR
  go_wp2_with fail
  go_ret2
  exact ⟨rfl, H2.out.bel⟩
set_option maxRecDepth 100000 in
set_option maxHeartbeats 1000000 in
theorem prem_none (w : World) {q0 : Option Addr} (h : Nob w (.pointer q0)) {r : List Nat} (hl : r.length = 16) (g ru main : Int) :
    Calls Tryd.prog 20 #[.pointer q0, .agg (cellsQ r g), .int .i64 ru, .int .i64 main] w fun e w' => e = .returned (.tuple #[.slice none 0 0, .int .i64 1]) ∧ Below w.heap.size w w' := by
  have HN := show Hid (Nob w (.pointer q0)) from h
  clear h
  go_enter Tryd.func20, Tryd.ntmps20
  go_wp2_with (refine wpList_box 27 _ rfl _ rfl rfl ?_)
  intro w1 b5 hn1
  have H1 := show Hid (RS1 w w1 b5 r g) from ⟨hn1.blk, hn1.bel, hn1.ge⟩
  have KR := show Hid _ from refused_none w1 (Nob.later HN.out hn1.bel) (r := r) g
  clear hn1 HN
  go_wp2_with (refine wpList_ldQQ _ _ rfl b5 rfl H1.out.s hl rfl ?_)
  refine Calls.mono KR.out ?_
  rintro e w2 ⟨rfl, hb2⟩
  have H2 := show Hid _ from H1.out.later hb2
  clear H1 hb2 KR
  go_wp2_with fail
  go_ret2
  exact ⟨rfl, H2.out.bel⟩
set_option maxRecDepth 100000 in
set_option maxHeartbeats 1000000 in
theorem apply_none (w0 : World) {q0 : Option Addr} (h : Nob w0 (.pointer q0)) {r : List Nat} (hl : r.length = 16) (g : Int) :
    Calls Tryd.prog 18 #[.pointer q0, .agg (cellsQ r g)] w0 fun e w' => e = .returned (.tuple #[.int .i64 0, .int .i64 0, .int .i64 1]) ∧ Below w0.heap.size w0 w' := by
  have HNO := show Hid (Nob w0 (.pointer q0)) from h
  clear h
  refine (callsIn_wide (n := 5)).1 ?_
  refine callsIn_of_wp_marks Tryd.func18 rfl trivial ?_ rfl
  simp only [Tryd.ntmps18, List.size_toArray, List.length_cons, List.length_nil, Nat.reduceAdd, Nat.reduceSub, Array.replicate_succ, Array.replicate_zero, List.push_toArray, List.append_toArray, List.nil_append, List.cons_append]
  refine wpIn_wide.2 ?_
  go_wp2_with (refine wpList_box 27 _ rfl _ rfl rfl ?_)
  intro w1 b3 hn1
  go_wp2_with (refine wpList_alloc1 35 rfl _ zeroRule rfl rfl ?_)
  intro w2 b4 hn2
  go_wp2_with (refine wpList_alloc1 3 rfl _ zeroInt rfl rfl ?_)
  intro w3 b5 hn3
  go_wp2_with (refine wpList_alloc1 57 rfl _ zeroErr rfl rfl ?_)
  intro w4 b6 hn4
  have H4 := show Hid (AP w0 w4 b3 b4 b5 b6 r g 0 0 0) from
    ⟨((Cl.new (Cl.new hn1.blk hn2) hn3).new hn4), (Cl.new (Cl.new hn2.blk hn3) hn4), Cl.new hn3.blk hn4, hn4.blk, bel_new (bel_new (bel_new hn1.bel hn2) hn3) hn4⟩
  have HN := show Hid (APn w0 b3 b4 b5 b6) from (by
    have e1 := hn1.ge; have e2 := hn1.up; have e3 := hn2.ge; have e4 := hn2.up; have e5 := hn3.ge; have e6 := hn3.up; have e7 := hn4.ge
    exact ⟨e1, by omega, by omega, by omega⟩)
  clear hn1 hn2 hn3 hn4
  have KR := show Hid _ from refused_none w4 (Nob.later HNO.out H4.out.bel) (r := r) g
  go_wp2_with (refine wpList_ldQQ _ _ rfl b3 rfl H4.out.s hl rfl ?_)
  refine Calls.mono KR.out ?_
  rintro e w5 ⟨rfl, hb5⟩
  have H5 := show Hid _ from H4.out.later hb5
  clear H4 hb5 KR
  have c4 := H5.out.x4.cell; have f4 := H5.out.x4.frozen
  have hne := HN.out
  have c5 := (H5.out.x5.other (show b5 ≠ b4 by have := hne.g5; omega) (.int .i64 0)).cell
  have f5 := (H5.out.x5.other (show b5 ≠ b4 by have := hne.g5; omega) (.int .i64 0)).frozen
  have c6 := ((H5.out.x6.other (show b6 ≠ b4 by have := hne.g5; have := hne.g6; omega) (.int .i64 0)).other (show b6 ≠ b5 by have := hne.g6; omega) (.int .i64 0)).cell
  have f6 := ((H5.out.x6.other (show b6 ≠ b4 by have := hne.g5; have := hne.g6; omega) (.int .i64 0)).other (show b6 ≠ b5 by have := hne.g6; omega) (.int .i64 0)).frozen
  clear hne
  go_wp2_with fail
  have hs := H5.out.set HN.out 0 0 1
  exact ⟨_, results_ap rfl _ _ rfl rfl rfl hs.x4 hs.x5 hs.x6, rfl, hs.bel⟩
set_option maxRecDepth 100000 in
set_option maxHeartbeats 1000000 in
theorem choices_none (w0 : World) {q0 : Option Addr} (h : Nob w0 (.pointer q0)) {r : List Nat} (hl : r.length = 16) (g : Int) :
    Calls Tryd.prog 21 #[.pointer q0, .agg (cellsQ r g)] w0 fun e w' => e = .returned (.tuple #[.slice none 0 0, .slice none 0 0, .int .i64 1]) ∧ Below w0.heap.size w0 w' := by
  have HNO := show Hid (Nob w0 (.pointer q0)) from h
  clear h
  refine (callsIn_wide (n := 5)).1 ?_
  refine callsIn_of_wp_marks Tryd.func21 rfl trivial ?_ rfl
  simp only [Tryd.ntmps21, List.size_toArray, List.length_cons, List.length_nil, Nat.reduceAdd, Nat.reduceSub, Array.replicate_succ, Array.replicate_zero, List.push_toArray, List.append_toArray, List.nil_append, List.cons_append]
  refine wpIn_wide.2 ?_
  go_wp2_with (refine wpList_box 27 _ rfl _ rfl rfl ?_)
  intro w1 b3 hn1
  have H1 := show Hid (RS1 w0 w1 b3 r g) from ⟨hn1.blk, hn1.bel, hn1.ge⟩
  have K1 := show Hid _ from apply_none w1 (Nob.later HNO.out hn1.bel) hl g
  clear hn1 HNO
  go_wp2_with (refine wpList_ldQQ _ _ rfl b3 rfl H1.out.s hl rfl ?_)
  refine Calls.mono K1.out ?_
  rintro e w2 ⟨rfl, hb2⟩
  have H2 := show Hid _ from H1.out.later hb2
  clear H1 hb2 K1
  go_wp2_with fail
  exact ⟨_, results_tmps3 rfl _ _, rfl, H2.out.bel⟩
end Go.Proofs.YtpddfooeaecekaaDoor

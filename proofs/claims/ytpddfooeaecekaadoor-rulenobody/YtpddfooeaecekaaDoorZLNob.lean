/-
  The law RuleNobody, as the program walks it: true for every sequent, every number of a rule and of a formula. Where the table of TrailingZeros stands as the program's text lays it.
-/
import Derived.Test.YtpddfooeaecekaaDoorZNob
namespace Go.Proofs.YtpddfooeaecekaaDoor
open Go.RowKit Go.Shelf Go.Maps
open Bt.Bs (Ok)
set_option linter.unusedSimpArgs false

set_option maxRecDepth 100000 in
set_option maxHeartbeats 4000000 in
theorem nobody9_any (w : World) {q0 : Option Addr} (hN : Nob w (.pointer q0)) {r : List Nat} (hl : r.length = 16) (g ru main : Int) :
    Calls Tryd.prog 15 #[.pointer q0, .agg (cellsQ r g), .int .i64 ru, .int .i64 main] w fun e w' => e = .returned (.bool true) ∧ Below w.heap.size w w' := by
  have K1 := show Hid (∀ W : World, Below w.heap.size w W → Calls Tryd.prog 18 #[.pointer q0, .agg (cellsQ r g)] W fun e w' => e = .returned (.tuple #[.int .i64 0, .int .i64 0, .int .i64 1]) ∧ Below W.heap.size W w') from fun W h => apply_none W (hN.later h) hl g
  have K2 := show Hid (∀ W : World, Below w.heap.size w W → Calls Tryd.prog 21 #[.pointer q0, .agg (cellsQ r g)] W fun e w' => e = .returned (.tuple #[.slice none 0 0, .slice none 0 0, .int .i64 1]) ∧ Below W.heap.size W w') from fun W h => choices_none W (hN.later h) hl g
  have K3 := show Hid (∀ W : World, Below w.heap.size w W → Calls Tryd.prog 22 #[.pointer q0, .agg (cellsQ r g), .int .i64 ru, .int .i64 main] W fun e w' => e = .returned (.tuple #[.bool false, .int .i64 1]) ∧ Below W.heap.size W w') from fun W h => fits_none W (hN.later h) hl g ru main
  have K4 := show Hid (∀ W : World, Below w.heap.size w W → Calls Tryd.prog 20 #[.pointer q0, .agg (cellsQ r g), .int .i64 ru, .int .i64 main] W fun e w' => e = .returned (.tuple #[.slice none 0 0, .int .i64 1]) ∧ Below W.heap.size W w') from fun W h => prem_none W (hN.later h) hl g ru main
  clear hN
  go_enter Tryd.func15, Tryd.ntmps15
  go_wp2_with (refine wpList_box 27 _ rfl _ rfl rfl ?_)
  intro w1 b5 hn1
  have H1 := show Hid (RS1 w w1 b5 r g) from ⟨hn1.blk, hn1.bel, hn1.ge⟩
  clear hn1
  go_wp2_with (refine wpList_ldQQ _ _ rfl b5 rfl H1.out.s hl rfl ?_)
  refine Calls.mono (K1.out _ H1.out.bel) ?_
  rintro e w2 ⟨rfl, hb2⟩
  have H2 := show Hid _ from H1.out.later hb2
  clear H1 hb2 K1
  go_wp2_with (refine wpList_ldQQ _ _ rfl b5 rfl H2.out.s hl rfl ?_)
  refine Calls.mono (K2.out _ H2.out.bel) ?_
  rintro e w3 ⟨rfl, hb3⟩
  have H3 := show Hid _ from H2.out.later hb3
  clear H2 hb3 K2
  go_wp2_with (refine wpList_ldQQ _ _ rfl b5 rfl H3.out.s hl rfl ?_)
  refine Calls.mono (K3.out _ H3.out.bel) ?_
  rintro e w4 ⟨rfl, hb4⟩
  have H4 := show Hid _ from H3.out.later hb4
  clear H3 hb4 K3
  go_wp2_with (refine wpList_ldQQ _ _ rfl b5 rfl H4.out.s hl rfl ?_)
  refine Calls.mono (K4.out _ H4.out.bel) ?_
  rintro e w5 ⟨rfl, hb5⟩
  have H5 := show Hid _ from H4.out.later hb5
  clear H4 hb5 K4
  go_wp2_with fail
  go_ret
  exact ⟨rfl, H5.out.bel⟩
set_option maxRecDepth 100000 in
set_option maxHeartbeats 4000000 in
theorem ruleNobody_any (w : World) {r : List Nat} (hr : Ok r) (g ru main : Int) (hZ : Bt.Tz w) :
    Calls Tryd.prog 5 #[.agg (cellsQ r g), .int .i64 ru, .int .i64 main] w fun e w' => e = .returned (.bool true) ∧ Below w.heap.size w w' := by
  have hl := hr.1
  have K1 := show Hid (∀ w' : World, Calls Tryd.prog 15 #[.pointer none, .agg (cellsQ r g), .int .i64 ru, .int .i64 main] w' fun e w'' => e = .returned (.bool true) ∧ Below w'.heap.size w' w'') from fun w' => nobody9_any w' (nob_nil w') hl g ru main
  have K2 := show Hid (∀ w' : World, Calls Tryd.prog 15 #[.pointer (some ⟨w'.heap.size, 0, none⟩), .agg (cellsQ r g), .int .i64 ru, .int .i64 main] (w'.alloc (Obj.cells #[.slice none 0 0, .map none] 53)) fun e w'' => e = .returned (.bool true) ∧ Below (w'.alloc (Obj.cells #[.slice none 0 0, .map none] 53)).heap.size (w'.alloc (Obj.cells #[.slice none 0 0, .map none] 53)) w'') from fun w' => nobody9_any _ (nob_zero _ w'.heap.size (heap_alloc_new w' _)) hl g ru main
  have KH := show Hid (∀ w' : World, Below w.heap.size w w' → Calls Tryd.prog 7 #[] w' fun e w'' => e = .returned (.bool true) ∧ Below w'.heap.size w' w'') from fun w' hb => heads9_any w' (Bt.tz_block hZ hb)
  clear hZ hr
  go_enter Tryd.func5, Tryd.ntmps5
  go_wp2_with (refine wpList_box 27 _ rfl _ rfl rfl ?_)
  intro w1 b3 hn1
  have H1 := show Hid (RS1 w w1 b3 r g) from ⟨hn1.blk, hn1.bel, hn1.ge⟩
  clear hn1
  go_wp2_with (refine wpList_ldQQ _ _ rfl b3 rfl H1.out.s hl rfl ?_)
  refine Calls.mono (K1.out _) ?_
  rintro e w2 ⟨rfl, hb2⟩
  have H2 := show Hid _ from H1.out.later hb2
  have H2A := show Hid (RS1 w (w2.alloc (Obj.cells #[.slice none 0 0, .map none] 53)) b3 r g) from H2.out.later (below_alloc _ _)
  clear hb2 H1 K1
  go_wp2_with (refine wpList_ldQQ _ _ rfl b3 rfl H2A.out.s hl rfl ?_)
  refine Calls.mono (K2.out _) ?_
  rintro e w3 ⟨rfl, hb3⟩
  have H3 := show Hid _ from H2A.out.later hb3
  clear hb3 H2 H2A K2
  go_wp2_with fail
  refine Calls.mono (KH.out _ H3.out.bel) ?_
  rintro e w4 ⟨rfl, hb4⟩
  have H4 := show Hid _ from H3.out.later hb4
  clear hb4 H3
  go_wp2_with fail
  go_ret
  exact ⟨rfl, H4.out.bel⟩
end Go.Proofs.YtpddfooeaecekaaDoor

/-
  The law SyntaxNobody, as the program walks it: true for every text, every row of tokens and every number, where the tables stand as the program's text lays them.
-/
import Derived.Test.YtcidldgenogdkaaDoorSNone
import Derived.Test.YtcidldgenogdkaaDoorSHeads
namespace Go.Proofs.YtcidldgenogdkaaDoor
open Go.RowKit Go.Maps
open Fm (Nd)
open Sx (Tn T)

set_option maxRecDepth 100000 in
set_option maxHeartbeats 4000000 in
theorem nobody_any (w : World) (pv : Value) (h : Nob w pv) (s : ByteArray) (p : Option Addr) (n c : Nat) (i : Int) :
    Calls Tryd.prog 4 #[pv, .string s, .slice p n c, .int .i64 i] w fun e w' => e = .returned (.bool true) ∧ Below w.heap.size w w' := by
  have K1 := show Hid (Calls Tryd.prog 6 #[pv, .string s] w fun e w' => e = .returned (.tuple #[.int .i64 0, .agg #[.int .i64 1, .int .i64 0, .int .i64 0, .int .i64 0]]) ∧ Below w.heap.size w w') from parse_none w h s
  have K2 := show Hid (∀ w', Below w.heap.size w w' → Calls Tryd.prog 7 #[pv, .slice p n c] w' fun e w'' => e = .returned (.tuple #[.int .i64 0, .int .i64 0, .agg #[.int .i64 1, .int .i64 0, .int .i64 0, .int .i64 0]]) ∧ Below w'.heap.size w' w'') from fun w' hb => take_none w' (h.later hb) p n c
  have K3 := show Hid (∀ w', Below w.heap.size w w' → Calls Tryd.prog 8 #[pv, .int .i64 i] w' fun e w'' => e = .returned (.tuple #[.string ⟨#[]⟩, .int .i64 1]) ∧ w'' = w') from fun w' hb => print_none w' (h.later hb) i
  clear h
  go_enter Tryd.func4, Tryd.ntmps4
  go_wp2_with fail
  refine K1.out.mono ?_
  rintro e w1 ⟨rfl, hb1⟩
  have H1 := show Hid (Below w.heap.size w (w1.alloc (Obj.cells #[.int .i64 1, .int .i64 0, .int .i64 0, .int .i64 0] 35)) ∧ Fl (w1.alloc (Obj.cells #[.int .i64 1, .int .i64 0, .int .i64 0, .int .i64 0] 35)) w1.heap.size 1 0 0 0) from ⟨hb1.alloc hb1.size _, fl_new _ _ _ _ _⟩
  clear hb1 K1
  go_wp2_with fail
  refine (K2.out _ H1.out.1).mono ?_
  rintro e w2 ⟨rfl, hb2⟩
  have hB2 : Below w.heap.size w w2 := H1.out.1.trans (hb2.mono H1.out.1.size)
  have H2 := show Hid (Below w.heap.size w (w2.alloc (Obj.cells #[.int .i64 1, .int .i64 0, .int .i64 0, .int .i64 0] 35)) ∧ Fl (w2.alloc (Obj.cells #[.int .i64 1, .int .i64 0, .int .i64 0, .int .i64 0] 35)) w1.heap.size 1 0 0 0 ∧ Fl (w2.alloc (Obj.cells #[.int .i64 1, .int .i64 0, .int .i64 0, .int .i64 0] 35)) w2.heap.size 1 0 0 0) from ⟨hB2.alloc hB2.size _, (H1.out.2.later hb2).later (below_alloc _ _), fl_new _ _ _ _ _⟩
  clear hb2 hB2 H1 K2
  go_wp2_with fail
  refine (K3.out _ H2.out.1).mono ?_
  rintro e w3 ⟨rfl, hw⟩
  subst w3
  clear K3
  generalize w2.alloc (Obj.cells #[.int .i64 1, .int .i64 0, .int .i64 0, .int .i64 0] 35) = w3 at *
  have H3 := show Hid (Below w.heap.size w (w3.alloc (Obj.cells #[.int .i64 1, .int .i64 0, .int .i64 0, .int .i64 0] 35)) ∧ Fl (w3.alloc (Obj.cells #[.int .i64 1, .int .i64 0, .int .i64 0, .int .i64 0] 35)) w1.heap.size 1 0 0 0 ∧ Fl (w3.alloc (Obj.cells #[.int .i64 1, .int .i64 0, .int .i64 0, .int .i64 0] 35)) w2.heap.size 1 0 0 0 ∧ Fl (w3.alloc (Obj.cells #[.int .i64 1, .int .i64 0, .int .i64 0, .int .i64 0] 35)) w3.heap.size 1 0 0 0) from ⟨H2.out.1.alloc H2.out.1.size _, H2.out.2.1.later (below_alloc _ _), H2.out.2.2.later (below_alloc _ _), fl_new _ _ _ _ _⟩
  clear H2
  have a0 := H3.out.2.1.c0; have a1 := H3.out.2.1.c1; have a2 := H3.out.2.1.c2; have a3 := H3.out.2.1.c3
  have b0 := H3.out.2.2.1.c0; have b1 := H3.out.2.2.1.c1; have b2 := H3.out.2.2.1.c2; have b3 := H3.out.2.2.1.c3
  have c0 := H3.out.2.2.2.c0; have c1 := H3.out.2.2.2.c1; have c2 := H3.out.2.2.2.c2; have c3 := H3.out.2.2.2.c3
  go_wp2_with fail
  go_ret
  exact ⟨rfl, H3.out.1⟩
set_option maxRecDepth 100000 in
set_option maxHeartbeats 2000000 in
theorem syntaxNobody_any (w : World) (s : ByteArray) (p : Option Addr) (n c : Nat) (i : Int) (hL : Tw.Laid w) :
    Calls Tryd.prog 3 #[.string s, .slice p n c, .int .i64 i] w fun e w' => e = .returned (.bool true) ∧ Below w.heap.size w w' := by
  have KH := show Hid (∀ w' : World, Below w.heap.size w w' → Calls Tryd.prog 5 #[] w' fun e w'' => e = .returned (.bool true) ∧ Below w'.heap.size w' w'') from fun w' hb => heads_any w' (hL.later hb)
  have KN := show Hid (∀ (w' : World) (pv : Value), Nob w' pv → Calls Tryd.prog 4 #[pv, .string s, .slice p n c, .int .i64 i] w' fun e w'' => e = .returned (.bool true) ∧ Below w'.heap.size w' w'') from fun w' pv h => nobody_any w' pv h s p n c i
  clear hL
  go_enter Tryd.func3, Tryd.ntmps3
  go_wp2_with fail
  refine (KN.out _ _ (nob_nil _)).mono ?_
  rintro e w1 ⟨rfl, hb1⟩
  have HB1 := show Hid (Below w.heap.size w w1) from hb1
  clear hb1
  go_wp2_with fail
  refine (KN.out _ _ (nob_zero _ _ (heap_alloc_new _ _))).mono ?_
  rintro e w2 ⟨rfl, hb2⟩
  have HB2 := show Hid (Below w.heap.size w w2) from (HB1.out.alloc HB1.out.size _).trans (hb2.mono (by have := HB1.out.size; simp; omega))
  clear hb2
  go_wp2_with fail
  refine (KH.out _ HB2.out).mono ?_
  rintro e w3 ⟨rfl, hb3⟩
  have HB3 := show Hid (Below w.heap.size w w3) from HB2.out.trans (hb3.mono HB2.out.size)
  clear hb3
  go_wp2_with fail
  go_ret
  exact ⟨rfl, HB3.out⟩
end Go.Proofs.YtcidldgenogdkaaDoor

/-
  The law TypesNobody: a table that no call made. The tables of shapes and of the errors' type stand.
-/
import Derived.Test.YtkpbpecikibohaaDoorYHeads
namespace Go.Proofs.YtkpbpecikibohaaDoor.Ya
open Go.RowKit Go.Maps
open Fm (Nd)
open Ty (Tm)
set_option linter.unusedSimpArgs false

set_option maxRecDepth 100000 in
set_option maxHeartbeats 4000000 in
theorem nobody13_any (w : World) {q0 : Option Addr} {hp : Option Addr} {hn hc : Nat} {sv : Value} {x : Tm} (hN : Nob w (.pointer q0)) (hK : ∃ p n c, sv = .slice p n c) (hS : Std w) (id : Int) :
    Calls Tryd.prog 10 #[.pointer q0, .slice hp hn hc, tmV x sv, .int .i64 id] w fun e w' => e = .returned (.bool true) ∧ Below w.heap.size w w' := by
  obtain ⟨p, n, c, rfl⟩ := hK
  have KI := show Hid (∀ W, Below w.heap.size w W → Calls Tryd.prog 8 #[.pointer q0, .slice hp hn hc, tmV x (.slice p n c)] W fun r w' => r = .returned (.tuple #[.int .i64 0, .int .i64 1]) ∧ Below W.heap.size W w') from fun W hW => infer_none W (Nob.later hN hW) ⟨_, _, _, rfl⟩ (hS.later hW)
  have KW := show Hid (∀ W, Below w.heap.size w W → Calls Tryd.prog 14 #[.pointer q0, .slice hp hn hc, tmV x (.slice p n c), .int .i64 id] W fun r w' => WhP W w' r ([], 1)) from fun W hW => where_none W (Nob.later hN hW) ⟨_, _, _, rfl⟩ (hS.later hW) id
  have KC := show Hid (∀ W, Below w.heap.size w W → Calls Tryd.prog 9 #[.pointer q0, .slice hp hn hc, tmV x (.slice p n c), .int .i64 id] W fun r w' => r = .returned (.int .i64 1) ∧ Below W.heap.size W w') from fun W hW => check_none W (Nob.later hN hW) ⟨_, _, _, rfl⟩ (hS.later hW) id
  clear hN hS
  unfold tmV at KI KW KC ⊢
  generalize x.k = xk at *
  generalize x.n = xn at *
  generalize x.o = xo at *
  generalize x.f = xf at *
  go_enter Tryd.func10, Tryd.ntmps10
  go_wp2_with (refine wpList_box 27 _ rfl _ rfl rfl ?_)
  intro w1 bx hn1
  have HX := show Hid (∀ W, Below w1.heap.size w1 W → Cl W bx #[.int .i64 xk, .string xn, .string xo, .int .i64 xf, .slice p n c] 27) from fun W hW => Cl.later (show Cl w1 bx _ _ from hn1.blk) hW
  have HB1 := show Hid _ from hn1.bel
  clear hn1
  have h1 := HX.out w1 (Below.refl _ _)
  have HX1 := show Hid _ from h1
  clear h1
  go_wp2_with (refine wpList_ldw 27 _ rfl bx rfl _ _ HX1.out rfl Tryd.underlying27 (by kernel_rfl) rfl ?_)
  refine Calls.mono (KI.out w1 HB1.out) ?_
  rintro e w2 ⟨rfl, hb2⟩
  have HX2 := show Hid _ from HX.out w2 hb2
  have HB12 := show Hid (Below w1.heap.size w1 w2) from hb2
  have HB2 := show Hid (Below w.heap.size w w2) from HB1.out.trans (hb2.mono HB1.out.size)
  clear hb2 KI HX1
  go_wp2_with (refine wpList_ldw 27 _ rfl bx rfl _ _ HX2.out rfl Tryd.underlying27 (by kernel_rfl) rfl ?_)
  refine Calls.mono (KW.out w2 HB2.out) ?_
  rintro e w3 ⟨yv, rfl, ho3, hb3⟩
  obtain ⟨yp, yc, rfl⟩ := own_form ho3
  have HX3 := show Hid _ from HX.out w3 (HB12.out.trans (hb3.mono HB12.out.size))
  have HB3 := show Hid (Below w.heap.size w w3) from HB2.out.trans (hb3.mono HB2.out.size)
  clear hb3 ho3 KW HX2 HB12
  go_wp2_with (refine wpList_ldw 27 _ rfl bx rfl _ _ HX3.out rfl Tryd.underlying27 (by kernel_rfl) rfl ?_)
  refine Calls.mono (KC.out w3 HB3.out) ?_
  rintro e w4 ⟨rfl, hb4⟩
  have HB4 := show Hid (Below w.heap.size w w4) from HB3.out.trans (hb4.mono HB3.out.size)
  clear hb4 KC HX3
  go_wp2_with fail
  go_ret
  exact ⟨rfl, HB4.out⟩
set_option maxRecDepth 100000 in
set_option maxHeartbeats 4000000 in
theorem typesNobody_any (w : World) {hp : Option Addr} {hn hc : Nat} {sv : Value} {x : Tm} (hK : ∃ p n c, sv = .slice p n c) (hS : Std w) (id : Int) :
    Calls Tryd.prog 4 #[.slice hp hn hc, tmV x sv, .int .i64 id] w fun e w' => e = .returned (.bool true) ∧ Below w.heap.size w w' := by
  obtain ⟨p, n, c, rfl⟩ := hK
  have KN := show Hid (∀ W q0, Below w.heap.size w W → Nob W (.pointer q0) → Calls Tryd.prog 10 #[.pointer q0, .slice hp hn hc, tmV x (.slice p n c), .int .i64 id] W fun e w' => e = .returned (.bool true) ∧ Below W.heap.size W w') from fun W q0 hW hN => nobody13_any W hN ⟨_, _, _, rfl⟩ (hS.later hW) id
  have KH := show Hid (∀ W, Below w.heap.size w W → Calls Tryd.prog 7 #[] W fun e w' => e = .returned (.bool true) ∧ Below W.heap.size W w') from fun W hW => heads13_any W (hS.later hW)
  clear hS
  unfold tmV at KN ⊢
  generalize x.k = xk at *
  generalize x.n = xn at *
  generalize x.o = xo at *
  generalize x.f = xf at *
  go_enter Tryd.func4, Tryd.ntmps4
  go_wp2_with (refine wpList_box 27 _ rfl _ rfl rfl ?_)
  intro w1 bx hn1
  have HX1 := show Hid (Cl w1 bx #[.int .i64 xk, .string xn, .string xo, .int .i64 xf, .slice p n c] 27) from hn1.blk
  have HB1 := show Hid _ from hn1.bel
  clear hn1
  go_wp2_with (refine wpList_ldw 27 _ rfl bx rfl _ _ HX1.out rfl Tryd.underlying27 (by kernel_rfl) rfl ?_)
  refine Calls.mono (KN.out w1 none HB1.out (nob_nil w1)) ?_
  rintro e w2 ⟨rfl, hb2⟩
  have HX2 := show Hid (Cl w2 bx #[.int .i64 xk, .string xn, .string xo, .int .i64 xf, .slice p n c] 27) from Cl.later HX1.out hb2
  have HB2 := show Hid (Below w.heap.size w w2) from HB1.out.trans (hb2.mono HB1.out.size)
  have HX3 := show Hid (Cl (w2.alloc (Obj.cells #[.slice none 0 0, .map none] 44)) bx #[.int .i64 xk, .string xn, .string xo, .int .i64 xf, .slice p n c] 27) from Cl.later HX2.out (below_alloc _ _)
  have HB3 := show Hid (Below w.heap.size w (w2.alloc (Obj.cells #[.slice none 0 0, .map none] 44))) from HB2.out.trans ((below_alloc _ _).mono HB2.out.size)
  have KN3 := show Hid _ from KN.out _ (some ⟨w2.heap.size, 0, none⟩) HB3.out (nob_zero _ w2.heap.size (new_alloc w2 #[.slice none 0 0, .map none] 44).blk)
  clear hb2 HX1 HX2 KN
  go_wp2_with (refine wpList_ldw 27 _ rfl bx rfl _ _ HX3.out rfl Tryd.underlying27 (by kernel_rfl) rfl ?_)
  refine Calls.mono KN3.out ?_
  rintro e w4 ⟨rfl, hb4⟩
  have HB4 := show Hid (Below w.heap.size w w4) from HB3.out.trans (hb4.mono HB3.out.size)
  have KH4 := show Hid _ from KH.out w4 HB4.out
  clear hb4 KN3 HX3 HB3 KH
  go_wp2_with fail
  refine Calls.mono KH4.out ?_
  rintro e w5 ⟨rfl, hb5⟩
  have HB5 := show Hid (Below w.heap.size w w5) from HB4.out.trans (hb5.mono HB4.out.size)
  clear hb5 KH4
  go_wp2_with fail
  go_ret
  exact ⟨rfl, HB5.out⟩
end Go.Proofs.YtkpbpecikibohaaDoor.Ya

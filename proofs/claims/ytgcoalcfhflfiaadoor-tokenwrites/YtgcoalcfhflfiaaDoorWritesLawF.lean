/-
  The law TokenWrites, as the program walks it: true for every token and every row of tokens that a machine can hold.
-/
import Derived.Test.YtgcoalcfhflfiaaDoorRJoinF
import Derived.Test.YtgcoalcfhflfiaaDoorTJoinF
import Derived.Test.YtgcoalcfhflfiaaDoorTAlive
namespace Go.Proofs.YtgcoalcfhflfiaaDoor
open Go.RowKit Go.Sort

set_option maxRecDepth 100000 in
set_option maxHeartbeats 4000000 in
theorem writes_anyF (w : World) (q : Rt) (v : Value) (ts : List Rt) (hq : q.okF) (hT : IsT w v ts) (hsm : SmallF ts) (hL : Laid w) (hP : Pows w) :
    Calls Tryd.prog 5 #[.agg #[.int .i64 q.k, .string q.s, .int .i64 q.n, .int .i64 q.l, .int .i64 q.c, .int .i64 q.o], v] w fun e w' => e = .returned (.bool true) ∧ Below w.heap.size w w' := by
  obtain ⟨tk, tt, ti, tl, tc, tO⟩ := q
  have HL := show Hid (Laid w) from hL
  have HP := show Hid (Pows w) from hP
  have hs := hq.1; have h0 := hq.2.1; have h1 := hq.2.2
  simp only at hs h0 h1 ⊢
  have KA := show Hid (∀ w1 : World, Below w.heap.size w w1 → Calls Tryd.prog 13 #[] w1 fun e w' => e = .returned (.bool true) ∧ Below w1.heap.size w1 w') from fun w1 hb => alive_any w1 (HL.out.later hb) (HP.out.later hb)
  have K1 := show Hid (∀ w1 : World, Below w.heap.size w w1 → Calls Tryd.prog 17 #[.agg #[.int .i64 tk, .string tt, .int .i64 ti, .int .i64 tl, .int .i64 tc, .int .i64 tO]] w1 fun e w' => e = .returned (.tuple #[.string ⟨(wrt (tk, tt.data.toList, ti)).1.toArray⟩, .int .i64 (wrt (tk, tt.data.toList, ti)).2]) ∧ Below w1.heap.size w1 w') from fun w1 hb => write_any w1 tk tt ti tl tc tO (by omega) h0 h1 (HL.out.later hb) (HP.out.later hb)
  have K2 := show Hid (∀ w1 : World, Below w.heap.size w w1 → Calls Tryd.prog 18 #[.agg #[.int .i64 tk, .string tt, .int .i64 ti, .int .i64 tl, .int .i64 tc, .int .i64 tO]] w1 fun e w' => e = .returned (.tuple #[.string ⟨(wrt (tk, tt.data.toList, ti)).1.toArray⟩, .int .i64 (wrt (tk, tt.data.toList, ti)).2]) ∧ Below w1.heap.size w1 w') from fun w1 hb => rwrite_any w1 tk tt ti tl tc tO (by omega) h0 h1 (HP.out.later hb)
  have K3 := show Hid (∀ w1 : World, Below w.heap.size w w1 → Calls Tryd.prog 19 #[v] w1 fun e w' => e = .returned (.tuple #[.string ⟨(jn (ts.map Rt.tok)).1.toArray⟩, .int .i64 (jn (ts.map Rt.tok)).2]) ∧ Below w1.heap.size w1 w') from fun w1 hb => join_anyF w1 v ts (hT.later hb) hsm (HL.out.later hb) (HP.out.later hb)
  have K4 := show Hid (∀ w1 : World, Below w.heap.size w w1 → Calls Tryd.prog 20 #[v] w1 fun e w' => e = .returned (.tuple #[.string ⟨(jn (ts.map Rt.tok)).1.toArray⟩, .int .i64 (jn (ts.map Rt.tok)).2]) ∧ Below w1.heap.size w1 w') from fun w1 hb => rjoin_anyF w1 v ts (hT.later hb) hsm (HP.out.later hb)
  generalize wrt (tk, tt.data.toList, ti) = r1 at *
  generalize jn (ts.map Rt.tok) = r2 at *
  obtain ⟨a1, e1⟩ := r1
  obtain ⟨a2, e2⟩ := r2
  simp only at K1 K2 K3 K4
  have KU := show Hid (∀ (w : World) (x : Int), Calls Tryd.prog 21 #[.int .i64 x] w fun e w' => e = .returned (.int .i64 x) ∧ w' = w) from num_any
  have HTB : Hid (T6 (w.alloc (Obj.cells #[.int .i64 tk, .string tt, .int .i64 ti, .int .i64 tl, .int .i64 tc, .int .i64 tO] 37)) w.heap.size (.int .i64 tk) (.string tt) (.int .i64 ti) (.int .i64 tl) (.int .i64 tc) (.int .i64 tO)) := heap_alloc_new _ _
  clear hq hT hsm hL hP hs h0 h1
  go_enter Tryd.func5, Tryd.ntmps5
  go_wp2_with fail
  refine (K1.out _ (below_alloc _ _)).mono ?_
  rintro e w1 ⟨rfl, hb1⟩
  have HB1 := show Hid (Below w.heap.size w w1) from (below_alloc _ _).trans (hb1.mono (by simp))
  have HT1 := show Hid (T6 w1 w.heap.size (.int .i64 tk) (.string tt) (.int .i64 ti) (.int .i64 tl) (.int .i64 tc) (.int .i64 tO)) from HTB.out.keep hb1 (by simp)
  have c0 := HT1.out.c0; have c1 := HT1.out.c1; have c2 := HT1.out.c2; have c3 := HT1.out.c3; have c4 := HT1.out.c4; have c5 := HT1.out.c5
  clear hb1 K1 HTB
  go_wp2_with fail
  refine (K2.out _ HB1.out).mono ?_
  rintro e w2 ⟨rfl, hb2⟩
  have HB2 := show Hid (Below w.heap.size w w2) from HB1.out.trans (hb2.mono HB1.out.size)
  clear hb2 K2 HB1 HT1 c0 c1 c2 c3 c4 c5
  go_wp2_with fail
  refine (K3.out _ HB2.out).mono ?_
  rintro e w3 ⟨rfl, hb3⟩
  have HB3 := show Hid (Below w.heap.size w w3) from HB2.out.trans (hb3.mono HB2.out.size)
  clear hb3 K3 HB2
  go_wp2_with fail
  refine (K4.out _ HB3.out).mono ?_
  rintro e w4 ⟨rfl, hb4⟩
  have HB4 := show Hid (Below w.heap.size w w4) from HB3.out.trans (hb4.mono HB3.out.size)
  clear hb4 K4 HB3
  go_wp2_with fail
  refine (KU.out _ _).mono ?_
  rintro e w5 ⟨rfl, rfl⟩
  go_wp2_with fail
  refine (KU.out _ _).mono ?_
  rintro e w6 ⟨rfl, rfl⟩
  go_wp2_with fail
  refine (KA.out _ HB4.out).mono ?_
  rintro e w7 ⟨rfl, hb7⟩
  have HB7 := show Hid (Below w.heap.size w w7) from HB4.out.trans (hb7.mono HB4.out.size)
  clear hb7 KA
  go_wp2_with fail
  go_ret
  exact ⟨rfl, HB7.out⟩
end Go.Proofs.YtgcoalcfhflfiaaDoor

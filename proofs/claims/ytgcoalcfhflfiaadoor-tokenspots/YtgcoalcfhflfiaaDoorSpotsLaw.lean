/-
  The law TokenSpots, as the program walks it: true for every text of at most 2^47 bytes and every place.
-/
import Derived.Test.YtgcoalcfhflfiaaDoorRName
import Derived.Test.YtgcoalcfhflfiaaDoorTAlive
namespace Go.Proofs.YtgcoalcfhflfiaaDoor
open Go.RowKit Go.Sort

set_option maxRecDepth 100000 in
set_option maxHeartbeats 2000000 in
theorem spots_any (w : World) (s : ByteArray) (off : Int) (hs : s.size ≤ 140737488355328) (hL : Laid w) (hP : Pows w) :
    Calls Tryd.prog 3 #[.string s, .int .i64 off] w fun e w' => e = .returned (.bool true) ∧ Below w.heap.size w w' := by
  have HL := show Hid (Laid w) from hL
  have HP := show Hid (Pows w) from hP
  have K1 := show Hid (Calls Tryd.prog 9 #[.string s, .int .i64 off] w fun e w' => e = .returned (.agg #[.int .i64 (Tk.spot s.data.toList (atOff s off)).1, .int .i64 (Tk.spot s.data.toList (atOff s off)).2, .int .i64 (atOff s off : Int)]) ∧ Below w.heap.size w w') from at_any w s off hs
  have K2 := show Hid (∀ w : World, Calls Tryd.prog 10 #[.string s, .int .i64 off] w fun e w' => e = .returned (.agg #[.int .i64 (Tk.spot s.data.toList (atOff s off)).1, .int .i64 (Tk.spot s.data.toList (atOff s off)).2, .int .i64 (atOff s off : Int)]) ∧ Below w.heap.size w w') from fun w => rat_any w s off hs
  have K3 := show Hid (∀ w1 : World, Below w.heap.size w w1 → Calls Tryd.prog 11 #[.string s] w1 fun e w' => e = .returned (.bool (isNameR s.data.toList)) ∧ Below w1.heap.size w1 w') from fun w1 hb => by
    have := name_any w1 s hs (HL.out.later hb)
    rw [isName_eq] at this
    exact this
  have K4 := show Hid (∀ w : World, Calls Tryd.prog 12 #[.string s] w fun e w' => e = .returned (.bool (isNameR s.data.toList)) ∧ w' = w) from fun w => rname_any w s hs
  have K5 := show Hid (∀ w1 : World, Below w.heap.size w w1 → Calls Tryd.prog 13 #[] w1 fun e w' => e = .returned (.bool true) ∧ Below w1.heap.size w1 w') from fun w1 hb => alive_any w1 (HL.out.later hb) (HP.out.later hb)
  generalize (Tk.spot s.data.toList (atOff s off)).1 = a1 at *
  generalize (Tk.spot s.data.toList (atOff s off)).2 = a2 at *
  generalize (atOff s off : Int) = a3 at *
  generalize isNameR s.data.toList = b at *
  clear hL hP HL HP
  go_enter Tryd.func3, Tryd.ntmps3
  go_wp2_with fail
  refine K1.out.mono ?_
  rintro e w1 ⟨rfl, hb1⟩
  have HB1 := show Hid (Below w.heap.size w w1) from hb1
  clear hb1 K1
  go_wp2_with fail
  refine (K2.out w1).mono ?_
  rintro e w2 ⟨rfl, hb2⟩
  have HB2 := show Hid (Below w.heap.size w w2) from HB1.out.trans (hb2.mono HB1.out.size)
  clear hb2 K2 HB1
  go_wp2_with fail
  refine (K3.out w2 HB2.out).mono ?_
  rintro e w3 ⟨rfl, hb3⟩
  have HB3 := show Hid (Below w.heap.size w w3) from HB2.out.trans (hb3.mono HB2.out.size)
  clear hb3 K3 HB2
  go_wp2_with fail
  refine (K4.out w3).mono ?_
  rintro e w4 ⟨rfl, rfl⟩
  go_wp2_with fail
  refine (K5.out _ HB3.out).mono ?_
  rintro e w5 ⟨rfl, hb5⟩
  have HB5 := show Hid (Below w.heap.size w w5) from HB3.out.trans (hb5.mono HB3.out.size)
  clear hb5 K5 HB3 K4
  go_wp2_with fail
  go_ret
  exact ⟨rfl, HB5.out⟩
end Go.Proofs.YtgcoalcfhflfiaaDoor

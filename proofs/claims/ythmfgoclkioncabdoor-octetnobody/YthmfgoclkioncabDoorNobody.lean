/-
  OctetNobody, as a walk: for every text it answers true and changes nothing that was there, where the library's tables stand as the program's text lays them.
-/
import Derived.Test.YthmfgoclkioncabDoorHeads
namespace Go.Proofs.YthmfgoclkioncabDoor
open Go.RowKit

set_option maxRecDepth 100000 in
set_option maxHeartbeats 1000000 in
theorem nobody_any (w : World) (v : Value) (h : NoRd w v) :
    Calls Tryd.prog 7 #[v] w fun e w' => e = .returned (.bool true) ∧ w' = w := by
  have C1 := show Hid (Calls Tryd.prog 10 #[v] w fun e w' => e = .returned (.tuple #[.int .u8 0, .int .i64 1]) ∧ w' = w) from rU8_no w v h
  have C2 := show Hid (Calls Tryd.prog 11 #[v] w fun e w' => e = .returned (.tuple #[.int .u64 0, .int .i64 1]) ∧ w' = w) from rNum_no w v h
  have C3 := show Hid (Calls Tryd.prog 12 #[v] w fun e w' => e = .returned (.tuple #[.string ⟨#[]⟩, .int .i64 1]) ∧ w' = w) from rText_no w v h
  have C4 := show Hid (Calls Tryd.prog 13 #[v] w fun e w' => e = .returned (.int .i64 1) ∧ w' = w) from rEnd_no w v h
  have C5 := show Hid (Calls Tryd.prog 14 #[v] w fun e w' => e = .returned (.int .i64 0) ∧ w' = w) from rLeft_no w v h
  clear h
  go_enter Tryd.func7, Tryd.ntmps7
  go_wp2_with fail
  refine C1.out.mono ?_
  rintro e w1 ⟨rfl, h1⟩
  subst h1
  go_wp2_with fail
  refine C2.out.mono ?_
  rintro e w2 ⟨rfl, h2⟩
  subst h2
  go_wp2_with fail
  refine C3.out.mono ?_
  rintro e w3 ⟨rfl, h3⟩
  subst h3
  go_wp2_with fail
  refine C4.out.mono ?_
  rintro e w4 ⟨rfl, h4⟩
  subst h4
  go_wp2_with fail
  refine C5.out.mono ?_
  rintro e w5 ⟨rfl, h5⟩
  subst h5
  go_wp2
  go_ret
  exact ⟨rfl, rfl⟩
set_option maxRecDepth 100000 in
set_option maxHeartbeats 1000000 in
theorem law_any (w : World) (s : ByteArray) (hT : Tabs w) (hP : Pows w) :
    Calls Tryd.prog 3 #[.string s] w fun e w' => e = .returned (.bool true) ∧ Below w.heap.size w w' := by
  have C1 := show Hid (Calls Tryd.prog 4 #[.pointer none, .int .u8 1] w fun e w' => e = .returned (.tuple #[]) ∧ w' = w) from wU8_nil 1 w
  have C2 := show Hid (Calls Tryd.prog 5 #[.pointer none, .int .u64 2] w fun e w' => e = .returned (.tuple #[]) ∧ w' = w) from wNum_nil 2 w
  have C3 := show Hid (Calls Tryd.prog 6 #[.pointer none, .string s] w fun e w' => e = .returned (.int .i64 1) ∧ w' = w) from wText_nil s w
  have C4 := show Hid (Calls Tryd.prog 7 #[.pointer none] w fun e w' => e = .returned (.bool true) ∧ w' = w) from nobody_any w _ (Or.inl rfl)
  have C5 := show Hid (Calls Tryd.prog 7 #[.pointer (some ⟨w.heap.size, 0, none⟩)] (w.alloc (Obj.cells #[Value.slice none 0 0, Value.bool false] 32)) fun e w' => e = .returned (.bool true) ∧ w' = w.alloc (Obj.cells #[Value.slice none 0 0, Value.bool false] 32)) from nobody_any _ _ (Or.inr ⟨w.heap.size, rfl, by simp⟩)
  have hb : Below w.heap.size w (w.alloc (Obj.cells #[Value.slice none 0 0, Value.bool false] 32)) := below_alloc _ _
  have C6 := show Hid (Calls Tryd.prog 8 #[] (w.alloc (Obj.cells #[Value.slice none 0 0, Value.bool false] 32)) fun e w' => e = .returned (.bool true) ∧ Below w.heap.size w w') from by
    refine (heads_any _ (hT.later hb) (hP.later hb)).mono ?_
    rintro e w' ⟨he, hb'⟩
    exact ⟨he, hb.trans (hb'.mono (by simp))⟩
  clear hb hT hP
  go_enter Tryd.func3, Tryd.ntmps3
  go_wp2_with fail
  refine C1.out.mono ?_
  rintro e w1 ⟨rfl, h1⟩
  subst h1
  go_wp2_with fail
  refine C2.out.mono ?_
  rintro e w2 ⟨rfl, h2⟩
  subst h2
  go_wp2_with fail
  refine C3.out.mono ?_
  rintro e w3 ⟨rfl, h3⟩
  subst h3
  go_wp2_with fail
  refine C4.out.mono ?_
  rintro e w4 ⟨rfl, h4⟩
  subst h4
  go_wp2_with fail
  refine C5.out.mono ?_
  rintro e w5 ⟨rfl, h5⟩
  subst h5
  go_wp2_with fail
  refine C6.out.mono ?_
  rintro e w6 ⟨rfl, hb6⟩
  clear C1 C2 C3 C4 C5 C6
  go_wp2
  go_ret
  exact ⟨rfl, hb6⟩
end Go.Proofs.YthmfgoclkioncabDoor

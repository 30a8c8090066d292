/-
  The calls Atoms and Signs at every number. For every table that calls made.
-/
import Derived.Test.YthdcppkohalkmaaGreatMSign
namespace Go.Proofs.YthdcppkohalkmaaGreat
open Go.RowKit Go.Maps Go.Sort Go.Lib
open Fm (Nd)

section
variable {b m : Nat} {v : Value} {t : List Nd}
/-- What Atoms tells. -/
def allN (t : List Nd) (id : Nat) : List (List UInt8) := namesS t (fun _ => true) (Fm.below t id)
set_option maxRecDepth 100000 in
set_option maxHeartbeats 1000000 in
theorem atoms_in (w : World) (hT : Tb w b m v t) (id : Nat) (hid : id < t.length) :
    Calls Tryz.prog 22 #[.pointer (some ⟨b, 0, none⟩), .int .i64 (id : Int)] w fun e w' => ∃ q c, e = .returned (.tuple #[.slice q (allN t id).length c, .int .i64 0]) ∧ w'.ownsRow w.heap.size 9 1 (.slice q (allN t id).length c) (allN t id).length ((allN t id).map encStr) ∧ Below w.heap.size w w' := by
  have hhas : Fm.has t (id : Int) = true := Fm.has_iff.2 ⟨by omega, by omega⟩
  have KR := show Hid (Calls Tryz.prog 47 #[.pointer (some ⟨b, 0, none⟩), .slice (some ⟨w.heap.size, 0, none⟩) 1 1] (w.alloc (Obj.cells #[.int .i64 (id : Int)] 3)) fun e w' => e = .returned (.int .i64 0) ∧ Below w.heap.size w w') from by
    have := refused_any _ (hT.later (below_alloc w (Obj.cells #[.int .i64 (id : Int)] 3))) _ _ (isL1 w (id : Int))
    rw [refs_one, hhas] at this
    exact this.mono fun e w' ⟨he, hb⟩ => ⟨he, (below_alloc w _).trans (hb.mono (below_alloc w _).size)⟩
  have KN := show Hid (∀ w1, Below w.heap.size w w1 → Calls Tryz.prog 48 #[.pointer (some ⟨b, 0, none⟩), .int .i64 (id : Int), .func (.func 49) #[] #[]] w1 (Nmd w1 (allN t id))) from fun w1 hb => names_any w1 (hT.later hb) id hid _ _ _ (fun _ _ => Tryz.call49 _ _) (wants_all w1 t.length)
  generalize allN t id = ss at *
  clear hhas hT
  go_enter Tryz.func22, Tryz.ntmps22
  go_wp2_with fail
  refine KR.out.mono ?_
  rintro e w1 ⟨rfl, hb1⟩
  have K1 := show Hid (Calls Tryz.prog 48 #[.pointer (some ⟨b, 0, none⟩), .int .i64 (id : Int), .func (.func 49) #[] #[]] w1 (Nmd w1 ss)) from KN.out w1 hb1
  have HB1 := show Hid (Below w.heap.size w w1) from hb1
  clear hb1 KR KN
  go_wp2_with fail
  refine K1.out.mono ?_
  rintro e w2 ⟨q, c, rfl, hO, hb2⟩
  have HE := show Hid (w2.ownsRow w.heap.size 9 1 (.slice q ss.length c) ss.length (ss.map encStr) ∧ Below w.heap.size w w2) from ⟨own_base hO HB1.out.size, HB1.out.trans (hb2.mono HB1.out.size)⟩
  clear hO hb2 K1 HB1
  go_wp2_with fail
  go_ret2
  exact ⟨q, c, rfl, HE.out⟩
set_option maxHeartbeats 1000000 in
theorem atoms_out (w : World) (hT : Tb w b m v t) (i : Int) (hi : Fm.has t i = false) :
    Calls Tryz.prog 22 #[.pointer (some ⟨b, 0, none⟩), .int .i64 i] w fun e w' => e = .returned (.tuple #[.slice none 0 0, .int .i64 31]) ∧ Below w.heap.size w w' := by
  have KR := show Hid (Calls Tryz.prog 47 #[.pointer (some ⟨b, 0, none⟩), .slice (some ⟨w.heap.size, 0, none⟩) 1 1] (w.alloc (Obj.cells #[.int .i64 i] 3)) fun e w' => e = .returned (.int .i64 31) ∧ Below w.heap.size w w') from by
    have := refused_any _ (hT.later (below_alloc w (Obj.cells #[.int .i64 i] 3))) _ _ (isL1 w i)
    rw [refs_one, hi] at this
    exact this.mono fun e w' ⟨he, hb⟩ => ⟨he, (below_alloc w _).trans (hb.mono (below_alloc w _).size)⟩
  clear hT
  go_enter Tryz.func22, Tryz.ntmps22
  go_wp2_with fail
  refine KR.out.mono ?_
  rintro e w1 ⟨rfl, hb1⟩
  have HB1 := show Hid (Below w.heap.size w w1) from hb1
  clear hb1 KR
  go_wp2_with fail
  go_ret2
  exact ⟨rfl, HB1.out⟩
set_option maxHeartbeats 1000000 in
theorem signs_out (w : World) (hT : Tb w b m v t) (i : Int) (hi : Fm.has t i = false) :
    Calls Tryz.prog 23 #[.pointer (some ⟨b, 0, none⟩), .int .i64 i] w fun e w' => e = .returned (.tuple #[.slice none 0 0, .slice none 0 0, .int .i64 31]) ∧ Below w.heap.size w w' := by
  have KR := show Hid (Calls Tryz.prog 47 #[.pointer (some ⟨b, 0, none⟩), .slice (some ⟨w.heap.size, 0, none⟩) 1 1] (w.alloc (Obj.cells #[.int .i64 i] 3)) fun e w' => e = .returned (.int .i64 31) ∧ Below w.heap.size w w') from by
    have := refused_any _ (hT.later (below_alloc w (Obj.cells #[.int .i64 i] 3))) _ _ (isL1 w i)
    rw [refs_one, hi] at this
    exact this.mono fun e w' ⟨he, hb⟩ => ⟨he, (below_alloc w _).trans (hb.mono (below_alloc w _).size)⟩
  clear hT
  go_enter Tryz.func23, Tryz.ntmps23
  go_wp2_with fail
  refine KR.out.mono ?_
  rintro e w1 ⟨rfl, hb1⟩
  have HB1 := show Hid (Below w.heap.size w w1) from hb1
  clear hb1 KR
  go_wp2_with fail
  refine bodyPost_ret (results_three rfl _ _ ()) rfl ?_
  exact ⟨rfl, HB1.out⟩
end
end Go.Proofs.YthdcppkohalkmaaGreat

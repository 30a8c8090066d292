/-
  The calls Atom, Bot, And, Or, Imp, Not and New of a table: for every text and number. No other condition.
-/
import Derived.Test.YtkpbpecikibohaaDoorFPutP
namespace Go.Proofs.YtkpbpecikibohaaDoor
open Go.RowKit Go.Maps
open Fm (Nd)

def atomN (s : ByteArray) : Nd := ⟨1, s, 0, 0⟩
def joinN (k a b : Int) : Nd := ⟨k, ⟨#[]⟩, a, b⟩
theorem i64_const {x : Int} (h0 : 0 ≤ x) (h1 : x ≤ 1024) : Fm.i64 x := Fm.i64_small h0 h1
theorem good_atom {s : ByteArray} (h : s.size ≤ 140737488351232) : Fm.good (atomN s) := ⟨i64_const (by simp [atomN]) (by simp [atomN]), h, i64_const (by simp [atomN]) (by simp [atomN]), i64_const (by simp [atomN]) (by simp [atomN])⟩
theorem good_joinN {k a b : Int} (h0 : 0 ≤ k) (h1 : k ≤ 1024) (ha : Fm.i64 a) (hb : Fm.i64 b) : Fm.good (joinN k a b) := Fm.good_join k a b (i64_const h0 h1) ha hb
section
variable (w : World) {b m : Nat} {v : Value} {t : List Nd}
theorem notp_eq (t : List Nd) (a : Int) : Fm.notp t a = if Fm.has t a then (if (Fm.put t Fm.bot).2.1 = 0 then Fm.put (Fm.put t Fm.bot).2.2 (joinN 5 a (Fm.put t Fm.bot).1) else (0, (Fm.put t Fm.bot).2.1, (Fm.put t Fm.bot).2.2)) else (0, 31, t) := rfl
set_option maxHeartbeats 1000000 in
theorem new_any :
    Calls Tryd.prog 20 #[] w fun e w' => e = .returned (.pointer (some ⟨w.heap.size + 1, 0, none⟩)) ∧ Tb w' (w.heap.size + 1) w.heap.size (.slice none 0 0) [] ∧ Below w.heap.size w w' := by
  have hmm := @run_makeMap Tryd.prog
  go_enter Tryd.func20, Tryd.ntmps20
  go_wp2
  go_ret
  refine ⟨rfl, ⟨?_, rw_nil _, ⟨.map [], ?_, tied_nil⟩, Fm.ok_nil⟩, ?_⟩
  · exact heap_alloc2_new _ _ _
  · exact (World.ownsMap_made w Tryd.prog 54 (plainElem Tryd.prog 3)).alloc _
  · exact ((Below.refl _ _).alloc (Nat.le_refl _) _).alloc (by simp) _
end
end Go.Proofs.YtkpbpecikibohaaDoor

/-
  The calls Atom, Bot, And, Or, Imp, Not and New of a table: for every text and number. No other condition.
-/
import Derived.Test.YthfedlodikbdgaaFPutP
namespace Go.Proofs.Ythfedlodikbdgaa
open Go.RowKit Go.Maps
open Fm (Nd)

def atomN (s : ByteArray) : Nd := ⟨1, s, 0, 0⟩
def joinN (k a b : Int) : Nd := ⟨k, ⟨#[]⟩, a, b⟩
theorem i64_const {x : Int} (h0 : 0 ≤ x) (h1 : x ≤ 1024) : Fm.i64 x := Fm.i64_small h0 h1
theorem good_atom {s : ByteArray} (h : s.size ≤ 140737488351232) : Fm.good (atomN s) := ⟨i64_const (by simp [atomN]) (by simp [atomN]), h, i64_const (by simp [atomN]) (by simp [atomN]), i64_const (by simp [atomN]) (by simp [atomN])⟩
theorem good_joinN {k a b : Int} (h0 : 0 ≤ k) (h1 : k ≤ 1024) (ha : Fm.i64 a) (hb : Fm.i64 b) : Fm.good (joinN k a b) := Fm.good_join k a b (i64_const h0 h1) ha hb
section
variable (w : World) {b m : Nat} {v : Value} {t : List Nd}
set_option maxHeartbeats 400000 in
theorem atom_any (h : Tb w b m v t) (s : ByteArray) (hs : s.size ≤ 140737488351232) :
    Calls Try.prog 33 #[.pointer (some ⟨b, 0, none⟩), .string s] w fun e w' => e = .returned (.tuple #[.int .i64 (Fm.put t (atomN s)).1, .int .i64 (Fm.put t (atomN s)).2.1]) ∧ After w b m v (Fm.put t (atomN s)).2.2 w' := by
  have K := show Hid (Calls Try.prog 39 #[.pointer (some ⟨b, 0, none⟩), .agg #[.int .i64 1, .string s, .int .i64 0, .int .i64 0]] w fun e w' => e = .returned (.tuple #[.int .i64 (Fm.put t (atomN s)).1, .int .i64 (Fm.put t (atomN s)).2.1]) ∧ After w b m v (Fm.put t (atomN s)).2.2 w') from put_any w h (atomN s) (good_atom hs)
  generalize Fm.put t (atomN s) = r at *
  clear h
  go_enter Try.func33, Try.ntmps33
  go_wp2_with fail
  refine K.out.mono ?_
  rintro e w1 ⟨rfl, ha⟩
  have HA := show Hid _ from ha
  clear ha K
  go_wp2_with fail
  go_ret2
  exact ⟨rfl, HA.out⟩
set_option maxHeartbeats 400000 in
theorem bot_any (h : Tb w b m v t) :
    Calls Try.prog 95 #[.pointer (some ⟨b, 0, none⟩)] w fun e w' => e = .returned (.tuple #[.int .i64 (Fm.put t Fm.bot).1, .int .i64 (Fm.put t Fm.bot).2.1]) ∧ After w b m v (Fm.put t Fm.bot).2.2 w' := by
  have K := show Hid (Calls Try.prog 39 #[.pointer (some ⟨b, 0, none⟩), .agg #[.int .i64 2, .string ⟨#[]⟩, .int .i64 0, .int .i64 0]] w fun e w' => e = .returned (.tuple #[.int .i64 (Fm.put t Fm.bot).1, .int .i64 (Fm.put t Fm.bot).2.1]) ∧ After w b m v (Fm.put t Fm.bot).2.2 w') from put_any w h Fm.bot Fm.good_bot
  generalize Fm.put t Fm.bot = r at *
  clear h
  go_enter Try.func95, Try.ntmps95
  go_wp2_with fail
  refine K.out.mono ?_
  rintro e w1 ⟨rfl, ha⟩
  have HA := show Hid _ from ha
  clear ha K
  go_wp2_with fail
  go_ret2
  exact ⟨rfl, HA.out⟩
set_option maxHeartbeats 400000 in
set_option maxHeartbeats 400000 in
set_option maxHeartbeats 400000 in
theorem imp_any (h : Tb w b m v t) (x y : Int) (hx : Fm.i64 x) (hy : Fm.i64 y) :
    Calls Try.prog 34 #[.pointer (some ⟨b, 0, none⟩), .int .i64 x, .int .i64 y] w fun e w' => e = .returned (.tuple #[.int .i64 (Fm.put t (joinN 5 x y)).1, .int .i64 (Fm.put t (joinN 5 x y)).2.1]) ∧ After w b m v (Fm.put t (joinN 5 x y)).2.2 w' := by
  have K := show Hid (Calls Try.prog 39 #[.pointer (some ⟨b, 0, none⟩), .agg #[.int .i64 5, .string ⟨#[]⟩, .int .i64 x, .int .i64 y]] w fun e w' => e = .returned (.tuple #[.int .i64 (Fm.put t (joinN 5 x y)).1, .int .i64 (Fm.put t (joinN 5 x y)).2.1]) ∧ After w b m v (Fm.put t (joinN 5 x y)).2.2 w') from put_any w h (joinN 5 x y) (good_joinN (by omega) (by omega) hx hy)
  generalize Fm.put t (joinN 5 x y) = r at *
  clear h
  go_enter Try.func34, Try.ntmps34
  go_wp2_with fail
  refine K.out.mono ?_
  rintro e w1 ⟨rfl, ha⟩
  have HA := show Hid _ from ha
  clear ha K
  go_wp2_with fail
  go_ret2
  exact ⟨rfl, HA.out⟩
set_option maxHeartbeats 1000000 in
set_option maxHeartbeats 1000000 in
theorem new_any :
    Calls Try.prog 32 #[] w fun e w' => e = .returned (.pointer (some ⟨w.heap.size + 1, 0, none⟩)) ∧ Tb w' (w.heap.size + 1) w.heap.size (.slice none 0 0) [] ∧ Below w.heap.size w w' := by
  have hmm := @run_makeMap Try.prog
  go_enter Try.func32, Try.ntmps32
  go_wp2
  go_ret
  refine ⟨rfl, ⟨?_, rw_nil _, ⟨.map [], ?_, tied_nil⟩, Fm.ok_nil⟩, ?_⟩
  · exact heap_alloc2_new _ _ _
  · exact (World.ownsMap_made w Try.prog 59 (plainElem Try.prog 3)).alloc _
  · exact ((Below.refl _ _).alloc (Nat.le_refl _) _).alloc (by simp) _
end
end Go.Proofs.Ythfedlodikbdgaa

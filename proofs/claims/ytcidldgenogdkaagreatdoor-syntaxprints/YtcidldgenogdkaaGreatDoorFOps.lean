/-
  The calls Atom, Bot, And, Or, Imp, Not and New of a table: for every text and number. No other condition.
-/
import Derived.Test.YtcidldgenogdkaaGreatDoorFPutP
namespace Go.Proofs.YtcidldgenogdkaaGreatDoor
open Go.RowKit Go.Maps
open Fm (Nd)

def atomN (s : ByteArray) : Nd := ⟨1, s, 0, 0⟩
def joinN (k a b : Int) : Nd := ⟨k, ⟨#[]⟩, a, b⟩
theorem i64_const {x : Int} (h0 : 0 ≤ x) (h1 : x ≤ 1024) : Fm.i64 x := Fm.i64_small h0 h1
theorem good_atom {s : ByteArray} (h : s.size ≤ 140737488351232) : Fm.good (atomN s) := ⟨i64_const (by simp [atomN]) (by simp [atomN]), h, i64_const (by simp [atomN]) (by simp [atomN]), i64_const (by simp [atomN]) (by simp [atomN])⟩
theorem good_joinN {k a b : Int} (h0 : 0 ≤ k) (h1 : k ≤ 1024) (ha : Fm.i64 a) (hb : Fm.i64 b) : Fm.good (joinN k a b) := Fm.good_join k a b (i64_const h0 h1) ha hb
section
variable (w : World) {b m : Nat} {v : Value} {t : List Nd}
set_option maxHeartbeats 400000 in
theorem atom_any (h : Tb w b m v t) (s : ByteArray) (hs : s.size ≤ 140737488351232) :
    Calls Tryz.prog 156 #[.pointer (some ⟨b, 0, none⟩), .string s] w fun e w' => e = .returned (.tuple #[.int .i64 (Fm.put t (atomN s)).1, .int .i64 (Fm.put t (atomN s)).2.1]) ∧ After w b m v (Fm.put t (atomN s)).2.2 w' := by
  have K := show Hid (Calls Tryz.prog 80 #[.pointer (some ⟨b, 0, none⟩), .agg #[.int .i64 1, .string s, .int .i64 0, .int .i64 0]] w fun e w' => e = .returned (.tuple #[.int .i64 (Fm.put t (atomN s)).1, .int .i64 (Fm.put t (atomN s)).2.1]) ∧ After w b m v (Fm.put t (atomN s)).2.2 w') from put_any w h (atomN s) (good_atom hs)
  generalize Fm.put t (atomN s) = r at *
  clear h
  go_enter Tryz.func156, Tryz.ntmps156
  go_wp2_with fail
  refine K.out.mono ?_
  rintro e w1 ⟨rfl, ha⟩
  have HA := show Hid _ from ha
  clear ha K
  go_wp2_with fail
  go_ret2
  exact ⟨rfl, HA.out⟩
set_option maxHeartbeats 400000 in
theorem bot_any (h : Tb w b m v t) :
    Calls Tryz.prog 151 #[.pointer (some ⟨b, 0, none⟩)] w fun e w' => e = .returned (.tuple #[.int .i64 (Fm.put t Fm.bot).1, .int .i64 (Fm.put t Fm.bot).2.1]) ∧ After w b m v (Fm.put t Fm.bot).2.2 w' := by
  have K := show Hid (Calls Tryz.prog 80 #[.pointer (some ⟨b, 0, none⟩), .agg #[.int .i64 2, .string ⟨#[]⟩, .int .i64 0, .int .i64 0]] w fun e w' => e = .returned (.tuple #[.int .i64 (Fm.put t Fm.bot).1, .int .i64 (Fm.put t Fm.bot).2.1]) ∧ After w b m v (Fm.put t Fm.bot).2.2 w') from put_any w h Fm.bot Fm.good_bot
  generalize Fm.put t Fm.bot = r at *
  clear h
  go_enter Tryz.func151, Tryz.ntmps151
  go_wp2_with fail
  refine K.out.mono ?_
  rintro e w1 ⟨rfl, ha⟩
  have HA := show Hid _ from ha
  clear ha K
  go_wp2_with fail
  go_ret2
  exact ⟨rfl, HA.out⟩
set_option maxHeartbeats 400000 in
theorem and_any (h : Tb w b m v t) (x y : Int) (hx : Fm.i64 x) (hy : Fm.i64 y) :
    Calls Tryz.prog 115 #[.pointer (some ⟨b, 0, none⟩), .int .i64 x, .int .i64 y] w fun e w' => e = .returned (.tuple #[.int .i64 (Fm.put t (joinN 3 x y)).1, .int .i64 (Fm.put t (joinN 3 x y)).2.1]) ∧ After w b m v (Fm.put t (joinN 3 x y)).2.2 w' := by
  have K := show Hid (Calls Tryz.prog 80 #[.pointer (some ⟨b, 0, none⟩), .agg #[.int .i64 3, .string ⟨#[]⟩, .int .i64 x, .int .i64 y]] w fun e w' => e = .returned (.tuple #[.int .i64 (Fm.put t (joinN 3 x y)).1, .int .i64 (Fm.put t (joinN 3 x y)).2.1]) ∧ After w b m v (Fm.put t (joinN 3 x y)).2.2 w') from put_any w h (joinN 3 x y) (good_joinN (by omega) (by omega) hx hy)
  generalize Fm.put t (joinN 3 x y) = r at *
  clear h
  go_enter Tryz.func115, Tryz.ntmps115
  go_wp2_with fail
  refine K.out.mono ?_
  rintro e w1 ⟨rfl, ha⟩
  have HA := show Hid _ from ha
  clear ha K
  go_wp2_with fail
  go_ret2
  exact ⟨rfl, HA.out⟩
set_option maxHeartbeats 400000 in
theorem or_any (h : Tb w b m v t) (x y : Int) (hx : Fm.i64 x) (hy : Fm.i64 y) :
    Calls Tryz.prog 136 #[.pointer (some ⟨b, 0, none⟩), .int .i64 x, .int .i64 y] w fun e w' => e = .returned (.tuple #[.int .i64 (Fm.put t (joinN 4 x y)).1, .int .i64 (Fm.put t (joinN 4 x y)).2.1]) ∧ After w b m v (Fm.put t (joinN 4 x y)).2.2 w' := by
  have K := show Hid (Calls Tryz.prog 80 #[.pointer (some ⟨b, 0, none⟩), .agg #[.int .i64 4, .string ⟨#[]⟩, .int .i64 x, .int .i64 y]] w fun e w' => e = .returned (.tuple #[.int .i64 (Fm.put t (joinN 4 x y)).1, .int .i64 (Fm.put t (joinN 4 x y)).2.1]) ∧ After w b m v (Fm.put t (joinN 4 x y)).2.2 w') from put_any w h (joinN 4 x y) (good_joinN (by omega) (by omega) hx hy)
  generalize Fm.put t (joinN 4 x y) = r at *
  clear h
  go_enter Tryz.func136, Tryz.ntmps136
  go_wp2_with fail
  refine K.out.mono ?_
  rintro e w1 ⟨rfl, ha⟩
  have HA := show Hid _ from ha
  clear ha K
  go_wp2_with fail
  go_ret2
  exact ⟨rfl, HA.out⟩
set_option maxHeartbeats 400000 in
theorem imp_any (h : Tb w b m v t) (x y : Int) (hx : Fm.i64 x) (hy : Fm.i64 y) :
    Calls Tryz.prog 111 #[.pointer (some ⟨b, 0, none⟩), .int .i64 x, .int .i64 y] w fun e w' => e = .returned (.tuple #[.int .i64 (Fm.put t (joinN 5 x y)).1, .int .i64 (Fm.put t (joinN 5 x y)).2.1]) ∧ After w b m v (Fm.put t (joinN 5 x y)).2.2 w' := by
  have K := show Hid (Calls Tryz.prog 80 #[.pointer (some ⟨b, 0, none⟩), .agg #[.int .i64 5, .string ⟨#[]⟩, .int .i64 x, .int .i64 y]] w fun e w' => e = .returned (.tuple #[.int .i64 (Fm.put t (joinN 5 x y)).1, .int .i64 (Fm.put t (joinN 5 x y)).2.1]) ∧ After w b m v (Fm.put t (joinN 5 x y)).2.2 w') from put_any w h (joinN 5 x y) (good_joinN (by omega) (by omega) hx hy)
  generalize Fm.put t (joinN 5 x y) = r at *
  clear h
  go_enter Tryz.func111, Tryz.ntmps111
  go_wp2_with fail
  refine K.out.mono ?_
  rintro e w1 ⟨rfl, ha⟩
  have HA := show Hid _ from ha
  clear ha K
  go_wp2_with fail
  go_ret2
  exact ⟨rfl, HA.out⟩
theorem notp_eq (t : List Nd) (a : Int) : Fm.notp t a = if Fm.has t a then (if (Fm.put t Fm.bot).2.1 = 0 then Fm.put (Fm.put t Fm.bot).2.2 (joinN 5 a (Fm.put t Fm.bot).1) else (0, (Fm.put t Fm.bot).2.1, (Fm.put t Fm.bot).2.2)) else (0, 31, t) := rfl
set_option maxHeartbeats 1000000 in
theorem not_any (h : Tb w b m v t) (x : Int) (hx : Fm.i64 x) :
    Calls Tryz.prog 148 #[.pointer (some ⟨b, 0, none⟩), .int .i64 x] w fun e w' => e = .returned (.tuple #[.int .i64 (Fm.notp t x).1, .int .i64 (Fm.notp t x).2.1]) ∧ After w b m v (Fm.notp t x).2.2 w' := by
  have HE := show Hid _ from notp_eq t x
  have HT := show Hid (Tb w b m v t) from h
  have KM := show Hid (∀ w', w' = w → Calls Tryz.prog 48 #[.pointer (some ⟨b, 0, none⟩)] w' fun e w'' => e = .returned (.bool true) ∧ w'' = w') from fun w' e => by subst e; exact made_tb _ h
  have KH := show Hid (Calls Tryz.prog 64 #[.pointer (some ⟨b, 0, none⟩), .int .i64 x] w fun e w'' => e = .returned (.bool (Fm.has t x)) ∧ w'' = w) from has_any w h x
  have KB := show Hid (Calls Tryz.prog 151 #[.pointer (some ⟨b, 0, none⟩)] w fun e w' => e = .returned (.tuple #[.int .i64 (Fm.put t Fm.bot).1, .int .i64 (Fm.put t Fm.bot).2.1]) ∧ After w b m v (Fm.put t Fm.bot).2.2 w') from bot_any w h
  have HID := show Hid _ from Fm.put_id h.ok Fm.bot
  have KI := show Hid (∀ (w1 : World) (v1 : Value), Tb w1 b m v1 (Fm.put t Fm.bot).2.2 → Calls Tryz.prog 111 #[.pointer (some ⟨b, 0, none⟩), .int .i64 x, .int .i64 (Fm.put t Fm.bot).1] w1 fun e w' => e = .returned (.tuple #[.int .i64 (Fm.put (Fm.put t Fm.bot).2.2 (joinN 5 x (Fm.put t Fm.bot).1)).1, .int .i64 (Fm.put (Fm.put t Fm.bot).2.2 (joinN 5 x (Fm.put t Fm.bot).1)).2.1]) ∧ After w1 b m v1 (Fm.put (Fm.put t Fm.bot).2.2 (joinN 5 x (Fm.put t Fm.bot).1)).2.2 w') from fun w1 v1 h1 => imp_any w1 h1 x _ hx (Fm.i64_small HID.out.1 HID.out.2)
  generalize Fm.notp t x = r at *
  generalize Fm.put (Fm.put t Fm.bot).2.2 (joinN 5 x (Fm.put t Fm.bot).1) = pi at *
  generalize Fm.put t Fm.bot = pb at *
  obtain ⟨pb1, pb2, pb3⟩ := pb
  simp only at HE KI KB
  clear h HID
  go_enter Tryz.func148, Tryz.ntmps148
  go_wp2_with fail
  refine (KM.out _ rfl).mono ?_
  rintro e w1 ⟨rfl, hw1⟩
  subst w1
  go_wp2_with fail
  refine KH.out.mono ?_
  rintro e w1 ⟨rfl, hw1⟩
  subst w1
  cases hh : Fm.has t x
  · have hr := HE.out
    rw [hh] at hr
    simp only [Bool.false_eq_true, if_false] at hr
    subst hr
    go_wp2_with fail
    go_ret2
    exact ⟨rfl, After.of_below HT.out (Below.refl _ _)⟩
  · have hr := HE.out
    rw [hh] at hr
    simp only [if_true] at hr
    have HE2 := show Hid _ from hr
    clear hr HE
    go_wp2_with fail
    refine KB.out.mono ?_
    rintro e w1 ⟨rfl, ha⟩
    obtain ⟨v1, hT1, hL1, hK1⟩ := ha
    have X := show Hid (Tb w1 b m v1 pb3 ∧ Lies w.heap.size v v1 ∧ Kp (Ft b m v) w w1) from ⟨hT1, hL1, hK1⟩
    clear hT1 hL1 hK1 KB
    by_cases he : pb2 = 0
    · subst he
      have hr := HE2.out
      rw [if_pos rfl] at hr
      subst hr
      go_wp2_with fail
      refine (KI.out w1 v1 X.out.1).mono ?_
      rintro e w2 ⟨rfl, ha⟩
      have HA := show Hid _ from ha
      clear ha KI
      go_wp2_with fail
      go_ret2
      exact ⟨rfl, After.trans X.out.2.1 X.out.2.2 HA.out⟩
    · have hr := HE2.out
      rw [if_neg he] at hr
      subst hr
      have he0 : (pb2 != 0) = true := by simp [he]
      go_wp2_with fail
      go_ret2
      exact ⟨rfl, v1, X.out.1, X.out.2.1, X.out.2.2⟩
set_option maxHeartbeats 1000000 in
theorem new_any :
    Calls Tryz.prog 24 #[] w fun e w' => e = .returned (.pointer (some ⟨w.heap.size + 1, 0, none⟩)) ∧ Tb w' (w.heap.size + 1) w.heap.size (.slice none 0 0) [] ∧ Below w.heap.size w w' := by
  have hmm := @run_makeMap Tryz.prog
  go_enter Tryz.func24, Tryz.ntmps24
  go_wp2
  go_ret
  refine ⟨rfl, ⟨?_, rw_nil _, ⟨.map [], ?_, tied_nil⟩, Fm.ok_nil⟩, ?_⟩
  · exact heap_alloc2_new _ _ _
  · exact (World.ownsMap_made w Tryz.prog 104 (plainElem Tryz.prog 3)).alloc _
  · exact ((Below.refl _ _).alloc (Nat.le_refl _) _).alloc (by simp) _
end
end Go.Proofs.YtcidldgenogdkaaGreatDoor

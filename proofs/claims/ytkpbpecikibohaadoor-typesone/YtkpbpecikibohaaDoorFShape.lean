/-
  The calls made, has, joins, shaped and check of a table: for every row that a machine can hold. No other condition.
-/
import Derived.Test.YtkpbpecikibohaaDoorFWord
namespace Go.Proofs.YtkpbpecikibohaaDoor
open Go.RowKit
open Fm (Nd)

theorem run_eq_map (w : World) (d : Nat) (p : Option Nat) : (Op.equalIn (d + 1) 42 (.map p) (.map none)).run Tryd.prog w = .ok p.isNone w := by
  cases p <;> simp [Op.equalIn, run_underlying Tryd.underlying42]
theorem run_neq_map (w : World) (p : Option Nat) : (binOp .neq 42 (.map p) (.map none)).run Tryd.prog w = .ok (.bool p.isSome) w := by
  simp only [binOp]
  have e : (Op.equal 42 (.map p) (.map none)).run Tryd.prog w = .ok p.isNone w := by
    exact run_eq_map w 9999 p
  simp [e]
set_option maxHeartbeats 400000 in
theorem made_any (w : World) (b : Nat) (p : Option Nat) (hc : w.cell? ⟨b, 1, none⟩ = some (.map p)) :
    Calls Tryd.prog 37 #[.pointer (some ⟨b, 0, none⟩)] w fun e w' => e = .returned (.bool p.isSome) ∧ w' = w := by
  have hq := fun w => run_neq_map w p
  generalize p.isSome = r at *
  go_enter Tryd.func37, Tryd.ntmps37
  go_wp2
  go_ret
  exact ⟨rfl, rfl⟩
set_option maxHeartbeats 400000 in
theorem made_nil (w : World) :
    Calls Tryd.prog 37 #[.pointer none] w fun e w' => e = .returned (.bool false) ∧ w' = w := by
  go_enter Tryd.func37, Tryd.ntmps37
  go_wp2
  go_ret
  exact ⟨rfl, rfl⟩
theorem made_tb (w : World) {b m : Nat} {v : Value} {t : List Nd} (h : Tb w b m v t) :
    Calls Tryd.prog 37 #[.pointer (some ⟨b, 0, none⟩)] w fun e w' => e = .returned (.bool true) ∧ w' = w := made_any w b (some m) h.c1
theorem Rw.form {w : World} {v : Value} {t : List Nd} (h : Rw w v t) : ∃ p c, v = .slice p t.length c := by
  obtain ⟨p, c, hv, _⟩ := h.isR
  exact ⟨p, c, hv⟩
theorem has_eq (t : List Nd) (i : Int) : Fm.has t i = (decide (0 ≤ i) && decide (i < t.length)) := rfl
set_option maxHeartbeats 400000 in
theorem has_any (w : World) {b m : Nat} {v : Value} {t : List Nd} (h : Tb w b m v t) (i : Int) :
    Calls Tryd.prog 65 #[.pointer (some ⟨b, 0, none⟩), .int .i64 i] w fun e w' => e = .returned (.bool (Fm.has t i)) ∧ w' = w := by
  have K := show Hid (∀ w', w' = w → Calls Tryd.prog 37 #[.pointer (some ⟨b, 0, none⟩)] w' fun e w'' => e = .returned (.bool true) ∧ w'' = w') from fun w' e => by subst e; exact made_tb _ h
  have h0 := h.c0
  obtain ⟨p, c, rfl⟩ := h.row.form
  have HE := show Hid _ from has_eq t i
  generalize Fm.has t i = r at *
  have hl := h.ok.len
  clear h
  generalize t.length = n at *
  by_cases hi : 0 ≤ i
  all_goals
    go_enter Tryd.func65, Tryd.ntmps65
    go_wp2_with (go_at_call 37; refine (K.out _ rfl).mono ?_; rintro e w' ⟨rfl, rfl⟩)
    go_ret
    exact ⟨ret_bool (by rw [HE.out, Bool.eq_iff_iff]; simp; try omega), rfl⟩
set_option maxHeartbeats 400000 in
theorem has_nil (w : World) (i : Int) :
    Calls Tryd.prog 65 #[.pointer none, .int .i64 i] w fun e w' => e = .returned (.bool false) ∧ w' = w := by
  go_enter Tryd.func65, Tryd.ntmps65
  go_wp2_with (go_at_call 37; refine (made_nil _).mono ?_; rintro e w' ⟨rfl, rfl⟩)
  go_ret
  exact ⟨rfl, rfl⟩
set_option maxHeartbeats 400000 in
theorem has_zero (w : World) (b : Nat) (i : Int) (hc : w.cell? ⟨b, 1, none⟩ = some (.map none)) :
    Calls Tryd.prog 65 #[.pointer (some ⟨b, 0, none⟩), .int .i64 i] w fun e w' => e = .returned (.bool false) ∧ w' = w := by
  have K := made_any w b none hc
  go_enter Tryd.func65, Tryd.ntmps65
  go_wp2_with (go_at_call 37; refine K.mono ?_; rintro e w' ⟨rfl, rfl⟩)
  go_ret
  exact ⟨rfl, rfl⟩
set_option maxHeartbeats 400000 in
theorem joins_any (w : World) (k : Int) :
    Calls Tryd.prog 73 #[.int .i64 k] w fun e w' => e = .returned (.bool (Fm.jn k)) ∧ w' = w := by
  have HE := show Hid (Fm.jn k = (k == 3 || k == 4 || k == 5)) from rfl
  generalize Fm.jn k = r at *
  go_enter Tryd.func73, Tryd.ntmps73
  go_wp2
  all_goals (go_ret; refine ⟨ret_bool ?_, rfl⟩; have hE := HE.out; subst hE; simp_all)
end Go.Proofs.YtkpbpecikibohaaDoor

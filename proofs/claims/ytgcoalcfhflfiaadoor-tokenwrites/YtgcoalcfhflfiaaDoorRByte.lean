/-
  The document's calls digit, letter and within: for every byte. No condition.
-/
import Derived.Test.YtgcoalcfhflfiaaDoorTKit
namespace Go.Proofs.YtgcoalcfhflfiaaDoor
open Go.RowKit

set_option maxHeartbeats 400000 in
theorem rdigit_any (w : World) (c : UInt8) :
    Calls Tryd.prog 43 #[.int .u8 (c.toNat : Int)] w fun e w' => e = .returned (.bool (Tk.isDig c)) ∧ w' = w := by
  have HX : Hid (Tk.isDig c = (decide (48 ≤ c.toNat) && decide (c.toNat ≤ 57))) := rfl
  generalize Tk.isDig c = ans at *
  have hm := toNat_lt c
  generalize c.toNat = m at *
  have q48 : decide (48 ≤ (m : Int)) = decide (48 ≤ m) := decide_eq_decide.2 (by omega)
  have q57 : decide ((m : Int) ≤ 57) = decide (m ≤ 57) := decide_eq_decide.2 (by omega)
  generalize decide (48 ≤ m) = b1 at *
  generalize decide (m ≤ 57) = b2 at *
  go_enter Tryd.func43, Tryd.ntmps43
  cases b1 <;> cases b2
  all_goals
    go_wp2
    go_ret
    exact ⟨ret_bool (by rw [HX.out]; rfl), rfl⟩
set_option maxHeartbeats 1000000 in
theorem rletter_any (w : World) (c : UInt8) :
    Calls Tryd.prog 27 #[.int .u8 (c.toNat : Int)] w fun e w' => e = .returned (.bool (Tk.isBeg c)) ∧ w' = w := by
  have HX : Hid (Tk.isBeg c = ((decide (97 ≤ c.toNat) && decide (c.toNat ≤ 122)) || (decide (65 ≤ c.toNat) && decide (c.toNat ≤ 90)) || decide (c.toNat = 95))) := rfl
  generalize Tk.isBeg c = ans at *
  have hm := toNat_lt c
  generalize c.toNat = m at *
  have q97 : decide (97 ≤ (m : Int)) = decide (97 ≤ m) := decide_eq_decide.2 (by omega)
  have q122 : decide ((m : Int) ≤ 122) = decide (m ≤ 122) := decide_eq_decide.2 (by omega)
  have q65 : decide (65 ≤ (m : Int)) = decide (65 ≤ m) := decide_eq_decide.2 (by omega)
  have q90 : decide ((m : Int) ≤ 90) = decide (m ≤ 90) := decide_eq_decide.2 (by omega)
  have q95 : ((m : Int) == 95) = decide (m = 95) := by rw [Bool.eq_iff_iff]; simp; omega
  generalize decide (97 ≤ m) = b1 at *
  generalize decide (m ≤ 122) = b2 at *
  generalize decide (65 ≤ m) = b3 at *
  generalize decide (m ≤ 90) = b4 at *
  generalize decide (m = 95) = b5 at *
  go_enter Tryd.func27, Tryd.ntmps27
  cases b1 <;> cases b2 <;> cases b3 <;> cases b4 <;> cases b5
  all_goals
    go_wp2
    go_ret
    exact ⟨ret_bool (by rw [HX.out]; rfl), rfl⟩
set_option maxHeartbeats 1000000 in
theorem rwithin_any (w : World) (c : UInt8) :
    Calls Tryd.prog 28 #[.int .u8 (c.toNat : Int)] w fun e w' => e = .returned (.bool (Tk.isIn c)) ∧ w' = w := by
  have HX : Hid (Tk.isIn c = (Tk.isBeg c || Tk.isDig c || decide (c.toNat = 39))) := rfl
  have C1 := show Hid (Calls Tryd.prog 27 #[.int .u8 (c.toNat : Int)] w fun e w' => e = .returned (.bool (Tk.isBeg c)) ∧ w' = w) from rletter_any w c
  have C2 := show Hid (Calls Tryd.prog 43 #[.int .u8 (c.toNat : Int)] w fun e w' => e = .returned (.bool (Tk.isDig c)) ∧ w' = w) from rdigit_any w c
  generalize Tk.isIn c = ans at *
  generalize Tk.isBeg c = b1 at *
  generalize Tk.isDig c = b2 at *
  have hm := toNat_lt c
  generalize c.toNat = m at *
  have q39 : ((m : Int) == 39) = decide (m = 39) := by rw [Bool.eq_iff_iff]; simp; omega
  generalize decide (m = 39) = b3 at *
  go_enter Tryd.func28, Tryd.ntmps28
  go_wp2_with fail
  refine C1.out.mono ?_
  rintro e w1 ⟨rfl, rfl⟩
  cases b1 with
  | true =>
    cases b3 <;>
    · go_wp2
      go_ret
      exact ⟨ret_bool (by rw [HX.out]; rfl), rfl⟩
  | false =>
    go_wp2_with fail
    refine C2.out.mono ?_
    rintro e w1 ⟨rfl, rfl⟩
    cases b2 <;> cases b3 <;>
    · go_wp2
      go_ret
      exact ⟨ret_bool (by rw [HX.out]; rfl), rfl⟩
end Go.Proofs.YtgcoalcfhflfiaaDoor

/-
  The calls isDigit, beginsName, withinName, meaning: for every byte, every rune. No condition.
-/
import Derived.Test.YtcidldgenogdkaaGreatDoorTKit
namespace Go.Proofs.YtcidldgenogdkaaGreatDoor.Tw
open Go.RowKit

set_option maxHeartbeats 400000 in
theorem isDigit_any (w : World) (c : UInt8) :
    Calls Tryz.prog 105 #[.int .u8 (c.toNat : Int)] w fun e w' => e = .returned (.bool (Tk.isDig c)) ∧ w' = w := by
  have HX : Hid (Tk.isDig c = (decide (48 ≤ c.toNat) && decide (c.toNat ≤ 57))) := rfl
  generalize Tk.isDig c = ans at *
  have hm := toNat_lt c
  generalize c.toNat = m at *
  have q48 : decide (48 ≤ (m : Int)) = decide (48 ≤ m) := decide_eq_decide.2 (by omega)
  have q57 : decide ((m : Int) ≤ 57) = decide (m ≤ 57) := decide_eq_decide.2 (by omega)
  generalize decide (48 ≤ m) = b1 at *
  generalize decide (m ≤ 57) = b2 at *
  go_enter Tryz.func105, Tryz.ntmps105
  cases b1 <;> cases b2
  all_goals
    go_wp2
    go_ret
    exact ⟨ret_bool (by rw [HX.out]; rfl), rfl⟩
set_option maxHeartbeats 1000000 in
theorem begins_any (w : World) (c : UInt8) :
    Calls Tryz.prog 103 #[.int .u8 (c.toNat : Int)] w fun e w' => e = .returned (.bool (Tk.isBeg c)) ∧ w' = w := by
  have HX : Hid (Tk.isBeg c = ((decide (97 ≤ c.toNat) && decide (c.toNat ≤ 122)) || (decide (65 ≤ c.toNat) && decide (c.toNat ≤ 90)) || decide (c.toNat = 95))) := rfl
  generalize Tk.isBeg c = ans at *
  have hm := toNat_lt c
  generalize c.toNat = m at *
  have q97 : decide (97 ≤ (m : Int)) = decide (97 ≤ m) := decide_eq_decide.2 (by omega)
  have q122 : decide ((m : Int) ≤ 122) = decide (m ≤ 122) := decide_eq_decide.2 (by omega)
  have q65 : decide (65 ≤ (m : Int)) = decide (65 ≤ m) := decide_eq_decide.2 (by omega)
  have q90 : decide ((m : Int) ≤ 90) = decide (m ≤ 90) := decide_eq_decide.2 (by omega)
  have q95 : ((m : Int) == 95) = decide (m = 95) := by rw [Bool.eq_iff_iff]; simp; omega
  generalize decide (97 ≤ m) = b1 at *
  generalize decide (m ≤ 122) = b2 at *
  generalize decide (65 ≤ m) = b3 at *
  generalize decide (m ≤ 90) = b4 at *
  generalize decide (m = 95) = b5 at *
  go_enter Tryz.func103, Tryz.ntmps103
  cases b1 <;> cases b2 <;> cases b3 <;> cases b4 <;> cases b5
  all_goals
    go_wp2
    go_ret
    exact ⟨ret_bool (by rw [HX.out]; rfl), rfl⟩
set_option maxHeartbeats 1000000 in
theorem within_any (w : World) (c : UInt8) :
    Calls Tryz.prog 130 #[.int .u8 (c.toNat : Int)] w fun e w' => e = .returned (.bool (Tk.isIn c)) ∧ w' = w := by
  have HX : Hid (Tk.isIn c = (Tk.isBeg c || Tk.isDig c || decide (c.toNat = 39))) := rfl
  have C1 := show Hid (Calls Tryz.prog 103 #[.int .u8 (c.toNat : Int)] w fun e w' => e = .returned (.bool (Tk.isBeg c)) ∧ w' = w) from begins_any w c
  have C2 := show Hid (Calls Tryz.prog 105 #[.int .u8 (c.toNat : Int)] w fun e w' => e = .returned (.bool (Tk.isDig c)) ∧ w' = w) from isDigit_any w c
  generalize Tk.isIn c = ans at *
  generalize Tk.isBeg c = b1 at *
  generalize Tk.isDig c = b2 at *
  have hm := toNat_lt c
  generalize c.toNat = m at *
  have q39 : ((m : Int) == 39) = decide (m = 39) := by rw [Bool.eq_iff_iff]; simp; omega
  generalize decide (m = 39) = b3 at *
  go_enter Tryz.func130, Tryz.ntmps130
  go_wp2_with fail
  refine C1.out.mono ?_
  rintro e w1 ⟨rfl, rfl⟩
  cases b1 with
  | true =>
    cases b3 <;>
    · go_wp2
      go_ret
      exact ⟨ret_bool (by rw [HX.out]; rfl), rfl⟩
  | false =>
    go_wp2_with fail
    refine C2.out.mono ?_
    rintro e w1 ⟨rfl, rfl⟩
    cases b2 <;> cases b3 <;>
    · go_wp2
      go_ret
      exact ⟨ret_bool (by rw [HX.out]; rfl), rfl⟩
set_option maxHeartbeats 1000000 in
theorem meaning_any (w : World) (r : Nat) :
    Calls Tryz.prog 133 #[.int .i32 (r : Int)] w fun e w' => e = .returned (.tuple #[.int .i64 (Tk.meaning r).1, .string ⟨(Tk.meaning r).2.toArray⟩]) ∧ w' = w := by
  have q1 : ((r : Int) == 172) = decide (r = 172) := by rw [Bool.eq_iff_iff]; simp; omega
  have q2 : ((r : Int) == 8743) = decide (r = 8743) := by rw [Bool.eq_iff_iff]; simp; omega
  have q3 : ((r : Int) == 8744) = decide (r = 8744) := by rw [Bool.eq_iff_iff]; simp; omega
  have q4 : ((r : Int) == 8594) = decide (r = 8594) := by rw [Bool.eq_iff_iff]; simp; omega
  have q5 : ((r : Int) == 8596) = decide (r = 8596) := by rw [Bool.eq_iff_iff]; simp; omega
  have q6 : ((r : Int) == 8866) = decide (r = 8866) := by rw [Bool.eq_iff_iff]; simp; omega
  have q7 : ((r : Int) == 8804) = decide (r = 8804) := by rw [Bool.eq_iff_iff]; simp; omega
  have q8 : ((r : Int) == 8868) = decide (r = 8868) := by rw [Bool.eq_iff_iff]; simp; omega
  have q9 : ((r : Int) == 8869) = decide (r = 8869) := by rw [Bool.eq_iff_iff]; simp; omega
  have HX : Hid (Tk.meaning r = if decide (r = 172) = true then (3, [126]) else if decide (r = 8743) = true then (3, [38]) else if decide (r = 8744) = true then (3, [124]) else if decide (r = 8594) = true then (3, [45, 62]) else if decide (r = 8596) = true then (3, [60, 45, 62])
    else if decide (r = 8866) = true then (3, [124, 45]) else if decide (r = 8804) = true then (3, [60, 61]) else if decide (r = 8868) = true then (1, [116, 114, 117, 101]) else if decide (r = 8869) = true then (1, [102, 97, 108, 115, 101]) else (0, [])) := by
    show Tk.meaning r = _
    simp only [decide_eq_true_eq]; rfl
  generalize Tk.meaning r = ans at *
  generalize decide (r = 172) = b1 at *
  generalize decide (r = 8743) = b2 at *
  generalize decide (r = 8744) = b3 at *
  generalize decide (r = 8594) = b4 at *
  generalize decide (r = 8596) = b5 at *
  generalize decide (r = 8866) = b6 at *
  generalize decide (r = 8804) = b7 at *
  generalize decide (r = 8868) = b8 at *
  generalize decide (r = 8869) = b9 at *
  go_enter Tryz.func133, Tryz.ntmps133
  cases b1 with
  | true => go_wp2; go_ret2; exact ⟨by rw [HX.out]; rfl, rfl⟩
  | false => cases b2 with
    | true => go_wp2; go_ret2; exact ⟨by rw [HX.out]; rfl, rfl⟩
    | false => cases b3 with
      | true => go_wp2; go_ret2; exact ⟨by rw [HX.out]; rfl, rfl⟩
      | false => cases b4 with
        | true => go_wp2; go_ret2; exact ⟨by rw [HX.out]; rfl, rfl⟩
        | false => cases b5 with
          | true => go_wp2; go_ret2; exact ⟨by rw [HX.out]; rfl, rfl⟩
          | false => cases b6 with
            | true => go_wp2; go_ret2; exact ⟨by rw [HX.out]; rfl, rfl⟩
            | false => cases b7 with
              | true => go_wp2; go_ret2; exact ⟨by rw [HX.out]; rfl, rfl⟩
              | false => cases b8 with
                | true => go_wp2; go_ret2; exact ⟨by rw [HX.out]; rfl, rfl⟩
                | false => cases b9 with
                  | true => go_wp2; go_ret2; exact ⟨by rw [HX.out]; rfl, rfl⟩
                  | false => go_wp2; go_ret2; exact ⟨by rw [HX.out]; rfl, rfl⟩
end Go.Proofs.YtcidldgenogdkaaGreatDoor.Tw

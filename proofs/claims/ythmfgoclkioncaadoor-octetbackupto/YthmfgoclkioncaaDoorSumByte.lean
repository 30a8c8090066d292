/-
  The call sumByte: one byte goes into the register of the check sum: for every register and every byte. No condition.
-/
import Derived.Test.YthmfgoclkioncaaDoorChecked
import Derived.Test.YthmfgoclkioncaaDoorPure
import Derived.WalkKit
import Derived.WalkLawsBesides
import Derived.WalkSpells
import Derived.Laws.BitsAllLaws
namespace Go.Proofs.YthmfgoclkioncaaDoor
open Go.RowKit

theorem ret_int {k : IntKind} {a b : Int} (h : a = b) : Ending.returned (.int k a) = .returned (.int k b) := by rw [h]
theorem val_int {k : IntKind} {a b : Int} (h : a = b) : Value.int k a = .int k b := by rw [h]
theorem and_one (t : Nat) (h : t < 4294967296) : bits .and .u32 (t : Int) 1 = ((t % 2 : Nat) : Int) := by
  have := u32_and_nat t 1 h (by omega)
  rw [Nat.and_one_is_mod] at this
  exact this
theorem step_yes {s : Nat} (h : s < 4294967296) (ho : s % 2 = 1) : bits .xor .u32 ((s : Int) / 2) 2197175160 = ((Oct.step s : Nat) : Int) := by
  have := u32_xor_nat (s / 2) 2197175160 (by omega) (by omega)
  unfold Oct.step
  rw [if_pos ho, ← this]
  simp
theorem step_no {s : Nat} (ho : s % 2 = 0) : (s : Int) / 2 = ((Oct.step s : Nat) : Int) := by
  unfold Oct.step
  rw [if_neg (by omega)]
  simp
set_option maxHeartbeats 400000 in
theorem sumByte_any (s c : Nat) (w : World) (hs : s < 4294967296) (hc : c < 256) :
    Calls Tryd.prog 44 #[.int .u32 s, .int .u8 c] w fun e w' => e = .returned (.int .u32 (Oct.byte s c : Nat)) ∧ w' = w := by
  go_enter Tryd.func44, Tryd.ntmps44
  go_wp2
  go_loop [0, 10] (fun r i => ∃ k : Nat, k ≤ 8 ∧ i = .int .i64 k ∧ r = .int .u32 (Oct.steps k (s ^^^ c) : Nat)) (fun _ i => 8 - (intOf i).toNat)
  case atStart => exact ⟨0, by omega, rfl, val_int (u32_xor_nat s c hs (by omega))⟩
  case round =>
    obtain ⟨k, hk, rfl, rfl⟩ := hrel
    have HS : Hid (Oct.steps (k + 1) (s ^^^ c) = Oct.step (Oct.steps k (s ^^^ c))) := rfl
    have HB : Hid (Oct.byte s c = Oct.steps 8 (s ^^^ c)) := rfl
    have ht := Oct.steps_lt (Oct.xor_lt hs hc) k
    generalize hx : s ^^^ c = x at *
    clear hx
    generalize hg : Oct.steps k x = t at *
    have HG := show Hid (Oct.steps k x = t) from hg
    clear hg
    by_cases hlt : k < 8
    · rcases Nat.mod_two_eq_zero_or_one t with h2 | h2
      · have ha : bits .and .u32 (t : Int) 1 = 0 := by rw [and_one t ht, h2]; rfl
        have H2 := show Hid (t % 2 = 0) from h2
        clear h2
        go_wp2
        go_round
        case rel => exact ⟨k + 1, by omega, by go_num, val_int (by rw [HS.out]; exact step_no H2.out)⟩
        case measure => simp [intOf]; omega
      · have ha : bits .and .u32 (t : Int) 1 = 1 := by rw [and_one t ht, h2]; rfl
        have H2 := show Hid (t % 2 = 1) from h2
        clear h2
        go_wp2
        go_round
        case rel => exact ⟨k + 1, by omega, by go_num, val_int (by rw [HS.out]; exact step_yes ht H2.out)⟩
        case measure => simp [intOf]; omega
    · go_wp2
      go_ret
      have : k = 8 := by omega
      subst this
      exact ⟨ret_int (by rw [HB.out, HG.out]), rfl⟩
end Go.Proofs.YthmfgoclkioncaaDoor

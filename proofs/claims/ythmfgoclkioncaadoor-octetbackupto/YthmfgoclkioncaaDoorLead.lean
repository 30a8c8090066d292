/-
  The call leadingNum: the number with which a row of bytes begins, how many bytes it takes, the error: for every row of bytes.
-/
import Derived.Test.YthmfgoclkioncaaDoorReader
namespace Go.Proofs.YthmfgoclkioncaaDoor
open Go.RowKit

theorem acc_lt (k m V : Nat) (hV : V < 2 ^ (7 * k)) : V + m % 128 * 2 ^ (7 * k) < 2 ^ (7 * (k + 1)) := by
  have e : 2 ^ (7 * (k + 1)) = 128 * 2 ^ (7 * k) := by rw [show 7 * (k + 1) = 7 + 7 * k by omega, Nat.pow_add]
  have h1 : m % 128 * 2 ^ (7 * k) ≤ 127 * 2 ^ (7 * k) := Nat.mul_le_mul_right _ (by omega)
  omega
theorem shift_lt (k m : Nat) (hk : k ≤ 9) (h9 : k = 9 → m ≤ 1) : m % 128 * 2 ^ (7 * k) < 18446744073709551616 := by
  by_cases h : k = 9
  · have := h9 h
    subst h
    have h1 : m % 128 ≤ 1 := by omega
    have := Nat.mul_le_mul_right (2 ^ (7 * 9)) h1
    omega
  · have h1 : 2 ^ (7 * k) ≤ 2 ^ 56 := Nat.pow_le_pow_right (by omega) (by omega)
    have := Nat.mul_le_mul (show m % 128 ≤ 127 by omega) h1
    omega
theorem acc_eq (k m V : Nat) (hk : k ≤ 9) (hm : m < 256) (h9 : k = 9 → m ≤ 1) (hV : V < 2 ^ (7 * k)) :
    bits .or .u64 (V : Int) (IntKind.u64.wrap (IntKind.u64.wrap (bits .and .u8 (m : Int) 127) * 2 ^ (7 * k))) = ((V + m % 128 * 2 ^ (7 * k) : Nat) : Int) := by
  have ha : bits .and .u8 (m : Int) 127 = ((m % 128 : Nat) : Int) := by
    have h := u8_and_nat m 127 hm (by omega)
    rw [show (127 : Nat) = 2 ^ 7 - 1 from rfl, Nat.and_two_pow_sub_one_eq_mod] at h
    exact h
  have hsl := shift_lt k m hk h9
  have h63 : 2 ^ (7 * k) ≤ 2 ^ 63 := Nat.pow_le_pow_right (by omega) (by omega)
  have hw1 : IntKind.u64.wrap ((m % 128 : Nat) : Int) = ((m % 128 : Nat) : Int) := by
    rw [IntKind.wrap_u64, Int.emod_eq_of_lt (by omega) (by omega)]
  have e : (((m % 128 : Nat) : Int) * 2 ^ (7 * k)) = ((m % 128 * 2 ^ (7 * k) : Nat) : Int) := by simp
  rw [ha, hw1, e]
  rw [IntKind.wrap_u64, Int.emod_eq_of_lt (Int.natCast_nonneg _) (by omega), u64_or_nat _ _ (by omega) hsl, Oct.or_add _ _ _ hV]
theorem tup3 {a a' b b' c c' : Int} (h1 : a = a') (h2 : b = b') (h3 : c = c') : Ending.returned (.tuple #[.int .u64 a, .int .i64 b, .int .i64 c]) = Ending.returned (.tuple #[.int .u64 a', .int .i64 b', .int .i64 c']) := by rw [h1, h2, h3]
set_option maxRecDepth 100000 in
set_option maxHeartbeats 1000000 in
theorem lead_any (w : World) (v : Value) (l : List UInt8) (hv : IsB w v l) :
    Calls Tryd.prog 41 #[v] w fun e w' => e = .returned (.tuple #[.int .u64 ((Oct.lead l).1 : Int), .int .i64 ((Oct.lead l).2.1 : Int), .int .i64 ((Oct.lead l).2.2 : Int)]) ∧ w' = w := by
  obtain ⟨p, c, rfl, hc1, hc2, hpn, hb⟩ := hv
  clear hpn
  have HX : Hid (Oct.leadF 0 0 (l.drop 0) = Oct.lead l) := rfl
  generalize Oct.lead l = ans at *
  go_enter Tryd.func41, Tryd.ntmps41
  go_wp2
  go_loop [5, 10] (fun s i => ∃ k V : Nat, k ≤ l.length ∧ k ≤ 9 ∧ i = .int .i64 k ∧ s = .int .u64 (V : Int) ∧ Hid (V < 2 ^ (7 * k)) ∧ Hid (Oct.leadF V k (l.drop k) = ans)) (fun _ i => l.length - (intOf i).toNat)
  case atStart => exact ⟨0, 0, by omega, by omega, rfl, rfl, show 0 < 2 ^ (7 * 0) from by decide, HX⟩
  case round =>
    obtain ⟨k, V, hk, hk9, rfl, rfl, HV, HA⟩ := hrel
    clear HX
    by_cases hlt : k < l.length
    · obtain ⟨b, o, rfl, hcell⟩ := bytes_cell hb (by omega)
      have hck := hcell k hlt
      have hA := HA.out
      rw [Oct.drop_at l k hlt] at hA
      generalize l[k] = ch at *
      have hm := toNat_lt ch
      simp only [Oct.leadF] at hA
      generalize ch.toNat = m at *
      have HA2 := show Hid _ from hA
      clear hA HA hcell hb
      by_cases h9 : 9 ≤ k
      · obtain rfl : k = 9 := by omega
        clear h9 hk9
        by_cases h1 : 1 < m
        · have hA := HA2.out
          rw [if_pos ⟨rfl, h1⟩] at hA
          have HA3 := show Hid ((0, 0, 11) = ans) from hA
          clear hA HA2
          go_wp2
          go_ret3
          exact ⟨tup3 (by rw [← HA3.out]; rfl) (by rw [← HA3.out]; rfl) (by rw [← HA3.out]; rfl), rfl⟩
        · have hm1 : m ≤ 1 := by omega
          have hA := HA2.out
          rw [if_neg (by omega), if_neg (by omega)] at hA
          have HE := show Hid (bits .or .u64 (V : Int) (IntKind.u64.wrap (IntKind.u64.wrap (bits .and .u8 (m : Int) 127) * 9223372036854775808)) = ((V + m % 128 * 2 ^ (7 * 9) : Nat) : Int)) from acc_eq 9 m V (by omega) hm (fun _ => hm1) HV.out
          by_cases h0 : m = 0
          · rw [if_pos ⟨h0, by omega⟩] at hA
            have HA3 := show Hid ((0, 0, 11) = ans) from hA
            have hm0 : m ≤ 0 := by omega
            clear hA HA2 h0 HE
            go_wp2
            go_ret3
            exact ⟨tup3 (by rw [← HA3.out]; rfl) (by rw [← HA3.out]; rfl) (by rw [← HA3.out]; rfl), rfl⟩
          · rw [if_neg (by omega)] at hA
            have HA3 := show Hid ((V + m % 128 * 2 ^ (7 * 9), 9 + 1, 0) = ans) from hA
            have hm0 : 1 ≤ m := by omega
            clear hA HA2 h0
            go_wp2
            go_ret3
            exact ⟨tup3 (by rw [← HA3.out]; exact HE.out) (by rw [← HA3.out]; rfl) (by rw [← HA3.out]; rfl), rfl⟩
      · have hk8 : k ≤ 8 := by omega
        have HE := show Hid (bits .or .u64 (V : Int) (IntKind.u64.wrap (IntKind.u64.wrap (bits .and .u8 (m : Int) 127) * 2 ^ (7 * k))) = ((V + m % 128 * 2 ^ (7 * k) : Nat) : Int)) from acc_eq k m V (by omega) hm (fun _ => by omega) HV.out
        have hA := HA2.out
        rw [if_neg (by omega)] at hA
        clear h9 hk9 HA2
        by_cases h128 : 128 ≤ m
        · rw [if_pos h128] at hA
          have HA3 := show Hid (Oct.leadF (V + m % 128 * 2 ^ (7 * k)) (k + 1) (l.drop (k + 1)) = ans) from hA
          clear hA
          go_wp2
          go_round
          case rel => exact ⟨k + 1, V + m % 128 * 2 ^ (7 * k), by omega, by omega, by go_num, val_int HE.out, acc_lt k m V HV.out, HA3⟩
          case measure => simp [intOf]; omega
        · rw [if_neg h128] at hA
          have hm128 : m < 128 := by omega
          clear h128
          by_cases h0 : m = 0 ∧ 0 < k
          · rw [if_pos h0] at hA
            have HA3 := show Hid ((0, 0, 11) = ans) from hA
            obtain ⟨h0a, h0b⟩ := h0
            have hm0 : m ≤ 0 := by omega
            clear hA h0a HE
            go_wp2
            go_ret3
            exact ⟨tup3 (by rw [← HA3.out]; rfl) (by rw [← HA3.out]; rfl) (by rw [← HA3.out]; rfl), rfl⟩
          · rw [if_neg h0] at hA
            have HA3 := show Hid ((V + m % 128 * 2 ^ (7 * k), k + 1, 0) = ans) from hA
            clear hA
            by_cases hm0 : 1 ≤ m
            · clear h0
              go_wp2
              go_ret3
              exact ⟨tup3 (by rw [← HA3.out]; exact HE.out) (by rw [← HA3.out]; simp) (by rw [← HA3.out]; rfl), rfl⟩
            · obtain rfl : k = 0 := by omega
              obtain rfl : m = 0 := by omega
              have hV0 := HV.out
              obtain rfl : V = 0 := by simp at hV0; exact hV0
              have hck0 : w.cell? ⟨b, o, none⟩ = some (.int .u8 0) := hck
              clear h0 hm0 hV0 HE hck
              go_wp2
              go_ret3
              exact ⟨tup3 (by rw [← HA3.out]; decide) (by rw [← HA3.out]; rfl) (by rw [← HA3.out]; rfl), rfl⟩
    · have hA := HA.out
      rw [List.drop_eq_nil_of_le (by omega)] at hA
      have HA3 := show Hid ((0, 0, 10) = ans) from hA
      clear hA HA
      go_wp2
      go_ret3
      exact ⟨tup3 (by rw [← HA3.out]; rfl) (by rw [← HA3.out]; rfl) (by rw [← HA3.out]; rfl), rfl⟩
end Go.Proofs.YthmfgoclkioncaaDoor

/-
  The document's calls digit, Unhex and Undec answer as the program's do: for every text of at most 2^47 bytes and every bound.
-/
import Derived.Test.YthmfgoclkioncaaDoorUnhex
namespace Go.Proofs.YthmfgoclkioncaaDoor
open Go.RowKit

set_option maxHeartbeats 400000 in
theorem digit_some (w : World) (c x : Nat) (hc : c < 256) (h : hexv c = some x) :
    Calls Tryd.prog 47 #[.int .u8 (c : Int)] w fun e w' => e = .returned (.int .i64 (x : Int)) ∧ w' = w := by
  by_cases h1 : 48 ≤ c ∧ c ≤ 57
  · have hx : x = c - 48 := by rw [hexv, if_pos h1] at h; exact (Option.some.inj h).symm
    have HX := show Hid (x = c - 48) from hx
    obtain ⟨ha, hb⟩ := h1
    clear h hx
    go_enter Tryd.func47, Tryd.ntmps47
    go_wp2
    go_ret
    exact ⟨ret_int (by have := HX.out; omega), rfl⟩
  · by_cases h2 : 97 ≤ c ∧ c ≤ 102
    · have hx : x = c - 87 := by rw [hexv, if_neg h1, if_pos h2] at h; exact (Option.some.inj h).symm
      have HX := show Hid (x = c - 87) from hx
      obtain ⟨ha, hb⟩ := h2
      have h57 : decide ((c : Int) ≤ 57) = false := by simp; omega
      clear h hx h1
      go_enter Tryd.func47, Tryd.ntmps47
      go_wp2
      go_ret
      exact ⟨ret_int (by have := HX.out; omega), rfl⟩
    · rw [hexv, if_neg h1, if_neg h2] at h
      cases h
set_option maxHeartbeats 400000 in
theorem digit_none (w : World) (c : Nat) (hc : c < 256) (h : hexv c = none) :
    Calls Tryd.prog 47 #[.int .u8 (c : Int)] w fun e w' => e = .returned (.int .i64 (-1)) ∧ w' = w := by
  have h1 : ¬ (48 ≤ c ∧ c ≤ 57) := fun hc => by rw [hexv, if_pos hc] at h; cases h
  have h2 : ¬ (97 ≤ c ∧ c ≤ 102) := fun hc => by rw [hexv, if_neg h1, if_pos hc] at h; cases h
  clear h
  by_cases ha : c < 48
  · have d1 : decide (48 ≤ (c : Int)) = false := by simp; omega
    have d2 : decide (97 ≤ (c : Int)) = false := by simp; omega
    clear h1 h2
    go_enter Tryd.func47, Tryd.ntmps47
    go_wp2
    go_ret
    exact ⟨rfl, rfl⟩
  · by_cases hb : c < 97
    · have d1 : decide (48 ≤ (c : Int)) = true := by simp; omega
      have d3 : decide ((c : Int) ≤ 57) = false := by simp; omega
      have d2 : decide (97 ≤ (c : Int)) = false := by simp; omega
      clear h1 h2
      go_enter Tryd.func47, Tryd.ntmps47
      go_wp2
      go_ret
      exact ⟨rfl, rfl⟩
    · have d1 : decide (48 ≤ (c : Int)) = true := by simp; omega
      have d3 : decide ((c : Int) ≤ 57) = false := by simp; omega
      have d2 : decide (97 ≤ (c : Int)) = true := by simp; omega
      have d4 : decide ((c : Int) ≤ 102) = false := by simp; omega
      clear h1 h2
      go_enter Tryd.func47, Tryd.ntmps47
      go_wp2
      go_ret
      exact ⟨rfl, rfl⟩
theorem digit_any (w : World) (c : Nat) (hc : c < 256) :
    Calls Tryd.prog 47 #[.int .u8 (c : Int)] w fun e w' => (∃ x, hexv c = some x ∧ e = .returned (.int .i64 (x : Int)) ∧ w' = w) ∨ (hexv c = none ∧ e = .returned (.int .i64 (-1)) ∧ w' = w) := by
  cases h : hexv c with
  | none => exact (digit_none w c hc h).mono fun _ _ he => Or.inr ⟨rfl, he⟩
  | some x => exact (digit_some w c x hc h).mono fun _ _ he => Or.inl ⟨x, rfl, he⟩

set_option maxRecDepth 100000 in
set_option maxHeartbeats 2000000 in
theorem rundec_short (w : World) (s : ByteArray) (most : Int) (hs : s.size ≤ 9223372036854775807) (h : s.size = 0 ∨ 10 < s.size) :
    Calls Tryd.prog 30 #[.string s, .int .i64 most] w fun e w' => e = .returned (.tuple #[.int .i64 0, .int .i64 2]) ∧ w' = w := by
  rcases h with h | h
  · have hb : decide ((s.size : Int) < 1) = true := by simp; omega
    clear h
    go_enter Tryd.func30, Tryd.ntmps30
    go_wp2
    all_goals go_ret2
    all_goals exact ⟨rfl, rfl⟩
  · have hb : decide ((s.size : Int) < 1) = false := by simp; omega
    have hb2 : decide (10 < (s.size : Int)) = true := by simp; omega
    go_enter Tryd.func30, Tryd.ntmps30
    go_wp2
    all_goals go_ret2
    all_goals exact ⟨rfl, rfl⟩
set_option maxRecDepth 100000 in
set_option maxHeartbeats 2000000 in
theorem rundec_lead (w : World) (s : ByteArray) (most : Int) (hs : s.size ≤ 10) (h1 : 2 ≤ s.size) (h48 : (((s[0]'(by omega)).toNat : Int) == 48) = true) :
    Calls Tryd.prog 30 #[.string s, .int .i64 most] w fun e w' => e = .returned (.tuple #[.int .i64 0, .int .i64 2]) ∧ w' = w := by
  have hb : decide ((s.size : Int) < 1) = false := by simp; omega
  have hb2 : decide (10 < (s.size : Int)) = false := by simp; omega
  have hb3 : decide (1 < (s.size : Int)) = true := by simp; omega
  go_enter Tryd.func30, Tryd.ntmps30
  go_wp2
  all_goals go_ret2
  all_goals exact ⟨rfl, rfl⟩
set_option maxRecDepth 100000 in
set_option maxHeartbeats 4000000 in
theorem rundec_loop (w : World) (s : ByteArray) (most : Int) (hs : s.size ≤ 10) (h1 : 1 ≤ s.size) (h48 : (((s[0]'h1).toNat : Int) == 48) = false ∨ s.size ≤ 1) :
    Calls Tryd.prog 30 #[.string s, .int .i64 most] w fun e w' => w' = w ∧ e = .returned (.tuple #[.int .i64 (told (digs 0 s.data.toList) most).1, .int .i64 (told (digs 0 s.data.toList) most).2]) := by
  have HX : Hid (digs 0 (s.data.toList.drop 0) = digs 0 s.data.toList) := rfl
  generalize digs 0 s.data.toList = ans at *
  have hsz : s.data.toList.length = s.size := rfl
  have HSZ := show Hid (s.data.toList.length = s.size) from hsz
  have hb0 : decide ((s.size : Int) < 1) = false := by simp; omega
  have hb10 : decide (10 < (s.size : Int)) = false := by simp; omega
  clear hsz
  have h48' : (decide (1 < (s.size : Int)) = true ∧ (((s[0]'h1).toNat : Int) == 48) = false) ∨ decide (1 < (s.size : Int)) = false := by
    by_cases h : 1 < s.size
    · rcases h48 with h4 | h4
      · exact Or.inl ⟨by simp; omega, h4⟩
      · omega
    · exact Or.inr (by simp; omega)
  clear h48
  rcases h48' with ⟨hq, h48⟩ | hq
  all_goals
    go_enter Tryd.func30, Tryd.ntmps30
    go_wp2
    go_loop [6, 7] (fun n i => ∃ k acc : Nat, k ≤ s.size ∧ i = .int .i64 (k : Int) ∧ n = .int .i64 (acc : Int) ∧ acc < 10 ^ k ∧ Hid (digs acc (s.data.toList.drop k) = ans)) (fun _ i => s.size - (intOf i).toNat)
    case atStart => exact ⟨0, 0, by omega, rfl, rfl, by decide, HX⟩
    case round =>
      obtain ⟨k, acc, hk, rfl, rfl, hacc, HA⟩ := hrel
      clear HX
      have hp10 : 10 ^ k ≤ 10 ^ 10 := Nat.pow_le_pow_right (by omega) (by omega)
      have hacc2 : acc < 10000000000 := by omega
      have HAC := show Hid (acc < 10 ^ k) from hacc
      clear hacc hp10
      by_cases hlt : k < s.size
      · have hm256 := toNat_lt s[k]
        by_cases hd : 48 ≤ (s[k]).toNat ∧ (s[k]).toNat ≤ 57
        · have hA := HA.out
          rw [digs_step s.data.toList k acc hlt hd.1 hd.2, bytes_at s k hlt] at hA
          have HA2 := show Hid (digs (acc * 10 + ((s[k]).toNat - 48)) (s.data.toList.drop (k + 1)) = ans) from hA
          obtain ⟨hd1, hd2⟩ := hd
          have hb1 : decide (((s[k]).toNat : Int) < 48) = false := by simp; omega
          have hb2 : decide (57 < ((s[k]).toNat : Int)) = false := by simp; omega
          clear hA HA
          go_wp2
          go_round
          case rel =>
            refine ⟨k + 1, acc * 10 + ((s[k]).toNat - 48), by omega, by go_num, val_int (by omega), ?_, HA2⟩
            have := HAC.out
            rw [Nat.pow_succ]
            omega
          case measure => simp [intOf]; omega
        · have hbad : (s[k]).toNat < 48 ∨ 57 < (s[k]).toNat := by omega
          have hA := HA.out
          rw [digs_bad s.data.toList k acc hlt hbad] at hA
          have HA2 := show Hid (none = ans) from hA
          clear hA HA hd
          rcases hbad with hbad | hbad
          · have hb1 : decide (((s[k]).toNat : Int) < 48) = true := by simp; omega
            go_wp2
            go_ret2
            exact ⟨rfl, tup2 (by rw [← HA2.out]; rfl) (by rw [← HA2.out]; rfl)⟩
          · have hb1 : decide (((s[k]).toNat : Int) < 48) = false := by simp; omega
            have hb2 : decide (57 < ((s[k]).toNat : Int)) = true := by simp; omega
            go_wp2
            go_ret2
            exact ⟨rfl, tup2 (by rw [← HA2.out]; rfl) (by rw [← HA2.out]; rfl)⟩
      · have hA := HA.out
        rw [List.drop_eq_nil_of_le (by rw [HSZ.out]; omega)] at hA
        have HA2 := show Hid (some acc = ans) from hA
        clear hA HA
        by_cases hm : most < (acc : Int)
        · go_wp2
          go_ret2
          exact ⟨rfl, tup2 (by rw [← HA2.out]; simp only [told, if_pos hm]) (by rw [← HA2.out]; simp only [told, if_pos hm])⟩
        · go_wp2
          go_ret2
          exact ⟨rfl, tup2 (by rw [← HA2.out]; simp only [told, if_neg (Int.not_lt.2 hm)]) (by rw [← HA2.out]; simp only [told, if_neg (Int.not_lt.2 hm)])⟩
end Go.Proofs.YthmfgoclkioncaaDoor

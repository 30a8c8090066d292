/-
  The document's calls Sum and Seal answer as the program's do: for every bytes of at most 2^47 - 4096 (Seal: and four more).
-/
import Derived.Test.YthmfgoclkioncaaDoorOpen
import Derived.Laws.AppendOwnNone
namespace Go.Proofs.YthmfgoclkioncaaDoor
open Go.RowKit

set_option maxRecDepth 100000 in
set_option maxHeartbeats 2000000 in
theorem rsum_any (w : World) (v : Value) (l : List UInt8) (hv : IsB w v l) :
    Calls Tryd.prog 23 #[v] w fun e w' => e = .returned (.int .u32 (Oct.sum l : Nat)) ∧ w' = w := by
  obtain ⟨p, c, rfl, hc1, hc2, hpn, hb⟩ := hv
  clear hpn
  go_enter Tryd.func23, Tryd.ntmps23
  go_wp2
  go_loop [3, 4] (fun r i => ∃ k : Nat, k ≤ l.length ∧ i = .int .i64 (k : Int) ∧ r = .int .u32 (Oct.crc 4294967295 (l.take k) : Nat)) (fun _ i => l.length - (intOf i).toNat)
  case atStart => exact ⟨0, by omega, rfl, rfl⟩
  case round =>
    obtain ⟨k, hk, rfl, rfl⟩ := hrel
    have ht := Oct.crc_lt (l.take k) (s := 4294967295) (by omega)
    by_cases hlt : k < l.length
    · obtain ⟨b, o, rfl, hcell⟩ := bytes_cell hb (by omega)
      have hck := hcell k hlt
      have hm := toNat_lt l[k]
      have HS := show Hid (Oct.crc 4294967295 (l.take (k + 1)) = Oct.byte (Oct.crc 4294967295 (l.take k)) (l[k]).toNat) from by
        show Oct.crc 4294967295 (l.take (k + 1)) = Oct.byte (Oct.crc 4294967295 (l.take k)) (l[k]).toNat
        rw [Oct.take_snoc l k hlt, Oct.crc_snoc]
      generalize Oct.crc 4294967295 (l.take k) = t at *
      generalize (l[k]).toNat = m at *
      clear hcell hb
      have hxor : bits .xor .u32 (t : Int) (m : Int) = ((t ^^^ m : Nat) : Int) := u32_xor_nat t m ht (by omega)
      have hxl := Oct.xor_lt ht hm
      have HBY : Hid (Oct.byte t m = Oct.steps 8 (t ^^^ m)) := rfl
      generalize t ^^^ m = x at *
      go_wp2
      clear hxor
      go_loop [3, 5] (fun r i => ∃ j : Nat, j ≤ 8 ∧ i = .int .i64 (j : Int) ∧ r = .int .u32 (Oct.steps j x : Nat)) (fun _ i => 8 - (intOf i).toNat)
      case atStart => exact ⟨0, by omega, rfl, rfl⟩
      case round =>
        obtain ⟨j, hj, rfl, rfl⟩ := hrel
        have HST : Hid (Oct.steps (j + 1) x = Oct.step (Oct.steps j x)) := rfl
        have hq := Oct.steps_lt hxl j
        generalize hg : Oct.steps j x = q at *
        have HG := show Hid (Oct.steps j x = q) from hg
        clear hg
        by_cases hj8 : j < 8
        · rcases Nat.mod_two_eq_zero_or_one q with h2 | h2
          · have ha : bits .and .u32 (q : Int) 1 = 0 := by rw [and_one q hq, h2]; rfl
            have H2 := show Hid (q % 2 = 0) from h2
            clear h2
            go_wp2
            go_round
            case rel => exact ⟨j + 1, by omega, by go_num, val_int (by rw [HST.out]; exact step_no H2.out)⟩
            case measure => simp [intOf]; omega
          · have ha : bits .and .u32 (q : Int) 1 = 1 := by rw [and_one q hq, h2]; rfl
            have H2 := show Hid (q % 2 = 1) from h2
            clear h2
            go_wp2
            go_round
            case rel => exact ⟨j + 1, by omega, by go_num, val_int (by rw [HST.out]; exact step_yes hq H2.out)⟩
            case measure => simp [intOf]; omega
        · have hj88 : j = 8 := by omega
          have HF := show Hid (Oct.crc 4294967295 (l.take (k + 1)) = q) from by
            show Oct.crc 4294967295 (l.take (k + 1)) = q
            rw [HS.out, HBY.out, ← hj88, HG.out]
          clear hj88
          go_wp2
          go_round
          case rel => exact ⟨k + 1, by omega, by go_num, val_int (by rw [HF.out])⟩
          case measure => simp [intOf]; omega
    · have hkl : k = l.length := by omega
      have HF := show Hid (bits .xor .u32 (Oct.crc 4294967295 (l.take k) : Int) 4294967295 = ((Oct.sum l : Nat) : Int)) from by
        show bits .xor .u32 (Oct.crc 4294967295 (l.take k) : Int) 4294967295 = ((Oct.sum l : Nat) : Int)
        have h1 := not_nat _ ht
        have h2 := u32_xor_nat (Oct.crc 4294967295 (l.take k)) 4294967295 ht (by omega)
        have e3 : Oct.crc 4294967295 (l.take k) ^^^ 4294967295 = 4294967295 - Oct.crc 4294967295 (l.take k) := by
          have hx := Oct.not_xor _ ht
          have e2 : Oct.crc 4294967295 (l.take k) ^^^ 4294967295 = Oct.crc 4294967295 (l.take k) ^^^ (Oct.crc 4294967295 (l.take k) ^^^ (4294967295 - Oct.crc 4294967295 (l.take k))) := by rw [hx]
          rw [e2, ← Nat.xor_assoc, Nat.xor_self, Nat.zero_xor]
        rw [e3] at h2
        have h3 : bits .xor .u32 (Oct.crc 4294967295 (l.take k) : Int) 4294967295 = ((4294967295 - Oct.crc 4294967295 (l.take k) : Nat) : Int) := h2
        rw [h3, hkl, List.take_length]
        rfl
      clear hkl
      generalize Oct.crc 4294967295 (l.take k) = t at *
      go_wp2
      go_ret
      exact ⟨ret_int HF.out, rfl⟩
end Go.Proofs.YthmfgoclkioncaaDoor

/-
  The call Sum: the check sum of the parts, one behind the other: for every parts. No condition.
-/
import Derived.Test.YthmfgoclkioncaaDoorKit
import Derived.Test.YthmfgoclkioncaaDoorSumByte
import Derived.Test.YthmfgoclkioncaaDoorBurst
namespace Go.Proofs.YthmfgoclkioncaaDoor
open Go.RowKit

/-- A slice of slices: its values, and the bytes of each. -/
def Parts (w : World) (p : Option Addr) (vs : List Value) (ls : List (List UInt8)) : Prop :=
  vs.length = ls.length ∧ (0 < vs.length → ∃ b o, p = some ⟨b, o, none⟩ ∧ ∀ i (h : i < vs.length), w.cell? ⟨b, o + i, none⟩ = some vs[i]) ∧ ∀ i (h : i < vs.length) (h' : i < ls.length), IsB w vs[i] ls[i]

theorem flat_snoc (ls : List (List UInt8)) (k : Nat) (h : k < ls.length) : (ls.take (k + 1)).flatten = (ls.take k).flatten ++ ls[k] := by
  rw [List.take_succ_eq_append_getElem h, List.flatten_append, List.flatten_cons, List.flatten_nil, List.append_nil]
theorem not_nat (t : Nat) (h : t < 4294967296) : bits .xor .u32 IntKind.u32.max (t : Int) = ((4294967295 - t : Nat) : Int) := by
  have e : IntKind.u32.max = ((4294967295 : Nat) : Int) := by decide
  rw [e, u32_xor_nat _ _ (by omega) h, Nat.xor_comm]
  congr 1
  have := Oct.not_xor t h
  have e2 : t ^^^ 4294967295 = t ^^^ (t ^^^ (4294967295 - t)) := by rw [this]
  rw [e2, ← Nat.xor_assoc, Nat.xor_self, Nat.zero_xor]
set_option maxHeartbeats 400000 in
theorem sum_any (w : World) (p : Option Addr) (c : Nat) (vs : List Value) (ls : List (List UInt8)) (hp : Parts w p vs ls) (hm : vs.length ≤ 9223372036854775807) :
    Calls Tryd.prog 22 #[.slice p vs.length c] w fun e w' => e = .returned (.int .u32 (Oct.sum ls.flatten : Nat)) ∧ w' = w := by
  obtain ⟨hl0, hc, hv⟩ := hp
  have HL0 := show Hid (vs.length = ls.length) from hl0
  have hle1 : vs.length ≤ ls.length := by omega
  have hle2 : ls.length ≤ vs.length := by omega
  clear hl0
  go_enter Tryd.func22, Tryd.ntmps22
  go_wp2
  go_loop [3, 10] (fun r i => ∃ k : Nat, k ≤ vs.length ∧ i = .int .i64 k ∧ r = .int .u32 (Oct.crc 4294967295 (ls.take k).flatten : Nat)) (fun _ i => vs.length - (intOf i).toNat)
  case atStart => exact ⟨0, by omega, rfl, rfl⟩
  case round =>
    obtain ⟨k, hk, rfl, rfl⟩ := hrel
    have ht := Oct.crc_lt (ls.take k).flatten (s := 4294967295) (by omega)
    generalize hg : Oct.crc 4294967295 (ls.take k).flatten = t at *
    have HG := show Hid (Oct.crc 4294967295 (ls.take k).flatten = t) from hg
    clear hg
    by_cases hlt : k < vs.length
    · obtain ⟨b, o, rfl, hcell⟩ := hc (by omega)
      obtain ⟨q, cq, hvk, hc1, hc2, _, hq⟩ := hv k hlt (by omega)
      have hck := hcell k hlt
      rw [hvk] at hck
      clear hvk hcell hc hv
      generalize hlk : ls[k]'(by omega) = l at *
      have HL := show Hid (ls[k]'(by omega) = l) from hlk
      clear hlk
      go_wp2
      go_loop [3, 16] (fun r i => ∃ j : Nat, j ≤ l.length ∧ i = .int .i64 j ∧ r = .int .u32 (Oct.crc t (l.take j) : Nat)) (fun _ i => l.length - (intOf i).toNat)
      case atStart => exact ⟨0, by omega, rfl, rfl⟩
      case round =>
        obtain ⟨j, hj, rfl, rfl⟩ := hrel
        have ht2 := Oct.crc_lt (l.take j) (s := t) ht
        generalize hg2 : Oct.crc t (l.take j) = t2 at *
        have HG2 := show Hid (Oct.crc t (l.take j) = t2) from hg2
        clear hg2
        by_cases hlt2 : j < l.length
        · obtain ⟨b2, o2, rfl, hcell2⟩ := bytes_cell hq (by omega)
          have hcj := hcell2 j hlt2
          clear hcell2 hq
          have hb := toNat_lt l[j]
          go_wp2_with (go_at_call 44; refine (sumByte_any _ _ _ ht2 hb).mono ?_; rintro e w' ⟨rfl, rfl⟩)
          go_round
          case rel => exact ⟨j + 1, by omega, by go_num, val_int (by rw [Oct.take_snoc l j hlt2, Oct.crc_snoc, HG2.out])⟩
          case measure => simp [intOf]; omega
        · go_wp2
          go_round
          case rel =>
            have : j = l.length := by omega
            subst this
            exact ⟨k + 1, by omega, by go_num, val_int (by rw [flat_snoc ls k (by omega), Oct.crc_append, HG.out, HL.out, ← HG2.out, List.take_length])⟩
          case measure => simp [intOf]; omega
    · go_wp2
      go_ret
      have hkl : k = ls.length := by omega
      refine ⟨ret_int ?_, rfl⟩
      rw [← HG.out, hkl, List.take_length, not_nat _ (Oct.crc_lt _ (by omega))]
      rfl

theorem sum_one (w : World) (b o c : Nat) (v : Value) (l : List UInt8) (hc : w.cell? ⟨b, o, none⟩ = some v) (hv : IsB w v l) :
    Calls Tryd.prog 22 #[.slice (some ⟨b, o, none⟩) 1 c] w fun e w' => e = .returned (.int .u32 (Oct.sum l : Nat)) ∧ w' = w := by
  have h := sum_any w (some ⟨b, o, none⟩) c [v] [l] ⟨rfl, fun _ => ⟨b, o, rfl, fun i h => by
    obtain rfl : i = 0 := by simp at h; exact h
    simpa using hc⟩, fun i h h' => by
    obtain rfl : i = 0 := by simp at h; exact h
    exact hv⟩ (by simp)
  rw [List.flatten_cons, List.flatten_nil, List.append_nil] at h
  exact h
theorem sum_two (w : World) (b o c : Nat) (v v2 : Value) (l l2 : List UInt8) (hc : w.cell? ⟨b, o, none⟩ = some v) (hc2 : w.cell? ⟨b, o + 1, none⟩ = some v2) (hv : IsB w v l) (hv2 : IsB w v2 l2) :
    Calls Tryd.prog 22 #[.slice (some ⟨b, o, none⟩) 2 c] w fun e w' => e = .returned (.int .u32 (Oct.sum (l ++ l2) : Nat)) ∧ w' = w := by
  have h := sum_any w (some ⟨b, o, none⟩) c [v, v2] [l, l2] ⟨rfl, fun _ => ⟨b, o, rfl, fun i h => by
    match i, h with
    | 0, _ => simpa using hc
    | 1, _ => simpa using hc2⟩, fun i h h' => by
    match i, h, h' with
    | 0, _, _ => exact hv
    | 1, _, _ => exact hv2⟩ (by simp)
  rw [List.flatten_cons, List.flatten_cons, List.flatten_nil, List.append_nil] at h
  exact h
theorem sum_none (w : World) (p : Option Addr) (c : Nat) :
    Calls Tryd.prog 22 #[.slice p 0 c] w fun e w' => e = .returned (.int .u32 0) ∧ w' = w :=
  sum_any w p c [] [] ⟨rfl, fun h => absurd h (by simp), fun i h => absurd h (by simp)⟩ (by simp)
end Go.Proofs.YthmfgoclkioncaaDoor

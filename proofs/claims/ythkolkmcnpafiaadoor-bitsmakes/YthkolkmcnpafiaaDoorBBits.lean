/-
  math/bits' OnesCount64 and TrailingZeros64, and Count and Next: for every set, every number. The table that TrailingZeros64 reads stands.
-/
import Derived.Test.YthkolkmcnpafiaaDoorBCmp
import Derived.Test.YthkolkmcnpafiaaDoorBOnes
import Derived.Shelf.Spec.TrailingZeros
namespace Go.Proofs.YthkolkmcnpafiaaDoor
open Go.RowKit
open Bs (Ok wd)

def Tz (w : World) : Prop := TabAt 0 Lib.deBruijn64tab w
theorem tz_block {w w' : World} (h : Tz w) (hb : Below w.heap.size w w') : Tz w' := fun j hj => cell_later hb (h j hj)
theorem tz_lt {w : World} (h : Tz w) : 0 < w.heap.size := by
  have := h 0 (by decide)
  apply Nat.lt_of_not_le
  intro hle
  rw [World.cell?, Array.getElem?_eq_none hle] at this
  cases this
theorem tz_at {n : Nat} {w w' : World} (h : Tz w) (hn : w.heap.size ≤ n) (hb : Below n w w') : Tz w' := tz_block h (hb.mono hn)
set_option maxHeartbeats 1000000 in
theorem tz_core (x k idx : Nat) (w : World) (hx0 : ((x : Int) == 0) = false)
    (key : IntKind.u64.wrap (bits BinOp.and IntKind.u64 (x : Int) (IntKind.u64.wrap (-(x : Int))) * 285870213051353865) / 288230376151711744 = (idx : Int))
    (hi : idx < 64) (hk : k < 64) (hcell : w.cell? ⟨0, idx, none⟩ = some (.int .u8 k)) :
    Calls Tryd.prog 41 #[.int .u64 x] w fun e w' => e = .returned (.int .i64 k) ∧ w' = w := by
  go_enter Tryd.func41, Tryd.ntmps41
  go_wp2_with (simp only [key])
  go_ret
  exact ⟨rfl, rfl⟩
theorem tz_any (w : World) (hT : Tz w) {x : Nat} (h0 : x ≠ 0) (hx : x < 18446744073709551616) : Calls Tryd.prog 41 #[.int .u64 (x : Int)] w fun e w' => e = .returned (.int .i64 ((Lib.ctz 64 x : Nat) : Int)) ∧ w' = w := by
  obtain ⟨hlow, hk⟩ := Lib.lowest_bit 64 x h0 hx
  obtain ⟨hi, htab⟩ := Lib.deBruijn64_at _ hk
  have hcell := hT _ hi
  rw [htab] at hcell
  exact tz_core x _ _ w (by simpa using h0) (tz64_key x _ hx h0 hlow) hi hk hcell
/-! OnesCount64. -/
theorem and64 (x m : Nat) (hx : x < 18446744073709551616) (hm : m < 18446744073709551616) : bits .and .u64 (x : Int) (m : Int) = ((x &&& m : Nat) : Int) := u64_and_nat x m hx hm
theorem and_le (x m : Nat) : x &&& m ≤ m := Nat.and_le_right
theorem and127 {x : Nat} (h : x < 9223372036854775808) : bits .and .i64 (x : Int) 127 = ((x % 128 : Nat) : Int) := by
  show IntKind.i64.wrap ((BitVec.ofInt 64 (x : Int) &&& BitVec.ofInt 64 (127 : Int)).toNat : Int) = _
  have e1 : (BitVec.ofInt 64 (x : Int)).toNat = x := by
    rw [BitVec.ofInt_natCast, BitVec.toNat_ofNat]; exact Nat.mod_eq_of_lt (by omega)
  have e2 : (BitVec.ofInt 64 (127 : Int)).toNat = 127 := by decide
  rw [BitVec.toNat_and, e1, e2, show (127 : Nat) = 2 ^ 7 - 1 by rfl, Nat.and_two_pow_sub_one_eq_mod]
  have : x % 2 ^ 7 < 128 := Nat.mod_lt _ (by omega)
  rw [show (128 : Nat) = 2 ^ 7 by rfl] at *
  simp [IntKind.wrap, IntKind.bits, IntKind.signed]
  omega
theorem wrap_add (a b : Nat) (h : a + b < 18446744073709551616) : IntKind.u64.wrap ((a : Int) + (b : Int)) = ((a + b : Nat) : Int) := by
  rw [IntKind.wrap_u64]
  omega
theorem and_div (x c m : Nat) (hx : x < 18446744073709551616) (hm : m < 18446744073709551616) : bits .and .u64 ((x : Int) / (c : Int)) (m : Int) = ((x / c &&& m : Nat) : Int) := by
  have e : (x : Int) / (c : Int) = ((x / c : Nat) : Int) := by simp
  rw [e]
  exact u64_and_nat _ _ (Nat.lt_of_le_of_lt (Nat.div_le_self _ _) hx) hm
/-- The steps of the count, each as the walk meets it. -/
theorem ones_steps {x : Nat} (hx : x < 18446744073709551616) : ∃ y1 y2 y3 y4 y5 y6 : Nat,
    IntKind.u64.wrap (bits .and .u64 ((x : Int) / 2) 6148914691236517205 + bits .and .u64 (x : Int) 6148914691236517205) = (y1 : Int) ∧
    IntKind.u64.wrap (bits .and .u64 ((y1 : Int) / 4) 3689348814741910323 + bits .and .u64 (y1 : Int) 3689348814741910323) = (y2 : Int) ∧
    bits .and .u64 (IntKind.u64.wrap ((y2 : Int) / 16 + (y2 : Int))) 1085102592571150095 = (y3 : Int) ∧
    IntKind.u64.wrap ((y3 : Int) + (y3 : Int) / 256) = (y4 : Int) ∧ IntKind.u64.wrap ((y4 : Int) + (y4 : Int) / 65536) = (y5 : Int) ∧ IntKind.u64.wrap ((y5 : Int) + (y5 : Int) / 4294967296) = (y6 : Int) ∧
    y6 < 9223372036854775808 ∧ y6 % 128 = Bs.pop x := by
  have b1 : Bs.fold1 x < 18446744073709551616 := by
    have h1 := and_le (x / 2) 6148914691236517205
    have h2 := and_le x 6148914691236517205
    unfold Bs.fold1
    omega
  have b2 : Bs.fold2 (Bs.fold1 x) ≤ 7378697629483820646 := by
    have h1 := and_le (Bs.fold1 x / 4) 3689348814741910323
    have h2 := and_le (Bs.fold1 x) 3689348814741910323
    unfold Bs.fold2
    omega
  obtain ⟨c0, c1, c2, c3, c4, c5, c6, c7, q0, q1, q2, q3, q4, q5, q6, q7, hp, hy⟩ := Bs.ones_last hx rfl
  obtain ⟨y3, h3⟩ : ∃ y, y = Bs.fold3 (Bs.fold2 (Bs.fold1 x)) := ⟨_, rfl⟩
  obtain ⟨y4, h4⟩ : ∃ y, y = y3 + y3 / 256 := ⟨_, rfl⟩
  obtain ⟨y5, h5⟩ : ∃ y, y = y4 + y4 / 65536 := ⟨_, rfl⟩
  obtain ⟨y6, h6⟩ : ∃ y, y = y5 + y5 / 4294967296 := ⟨_, rfl⟩
  rw [← h3] at hy
  refine ⟨Bs.fold1 x, Bs.fold2 (Bs.fold1 x), y3, y4, y5, y6, ?_, ?_, ?_, ?_, ?_, ?_, ?_, ?_⟩
  · have e1 := and_div x 2 6148914691236517205 hx (by omega)
    have e2 := and64 x 6148914691236517205 hx (by omega)
    simp only [Int.cast_ofNat_Int] at e1 e2
    rw [e1, e2, wrap_add _ _ b1]
    rfl
  · have e1 := and_div (Bs.fold1 x) 4 3689348814741910323 b1 (by omega)
    have e2 := and64 (Bs.fold1 x) 3689348814741910323 b1 (by omega)
    simp only [Int.cast_ofNat_Int] at e1 e2
    rw [e1, e2, wrap_add _ _ (show Bs.fold2 (Bs.fold1 x) < _ by omega)]
    rfl
  · rw [h3]
    generalize Bs.fold2 (Bs.fold1 x) = y at *
    have e1 := wrap_add (y / 16) y (by omega)
    have e2 := and64 (y / 16 + y) 1085102592571150095 (by omega) (by omega)
    have e3 : ((y / 16 : Nat) : Int) = (y : Int) / 16 := by simp
    simp only [Int.cast_ofNat_Int] at e2
    rw [← e3, e1, e2]
    rfl
  all_goals clear b1 b2 h3
  · clear h5 h6; rw [IntKind.wrap_u64]; omega
  · clear h6; rw [IntKind.wrap_u64]; omega
  · rw [IntKind.wrap_u64]; omega
  · omega
  · have f4 : y4 = (c0 + c1) + 256 * ((c1 + c2) + 256 * ((c2 + c3) + 256 * ((c3 + c4) + 256 * ((c4 + c5) + 256 * ((c5 + c6) + 256 * ((c6 + c7) + 256 * c7)))))) := by clear h5 h6 hp; omega
    clear h4 hy
    have f5 : y5 = (c0 + c1 + c2 + c3) + 256 * ((c1 + c2 + c3 + c4) + 256 * ((c2 + c3 + c4 + c5) + 256 * ((c3 + c4 + c5 + c6) + 256 * ((c4 + c5 + c6 + c7) + 256 * ((c5 + c6 + c7) + 256 * ((c6 + c7) + 256 * c7)))))) := by clear h6 hp; omega
    clear h5 f4
    have f6 : y5 / 4294967296 = (c4 + c5 + c6 + c7) + 256 * ((c5 + c6 + c7) + 256 * ((c6 + c7) + 256 * c7)) := by clear h6 hp; omega
    rw [hp, h6, f6]
    clear h6 f6
    omega
set_option maxRecDepth 100000 in
set_option maxHeartbeats 4000000 in
theorem ones_any (w : World) {x : Nat} (hx : x < 18446744073709551616) : Calls Tryd.prog 42 #[.int .u64 (x : Int)] w fun e w' => e = .returned (.int .i64 ((Bs.pop x : Nat) : Int)) ∧ w' = w := by
  obtain ⟨y1, y2, y3, y4, y5, y6, e1, e2, e3, e4, e5, e6, h6, h7⟩ := ones_steps hx
  have e7 := and127 h6
  rw [h7] at e7
  clear h7
  go_enter Tryd.func42, Tryd.ntmps42
  go_wp2
  go_ret
  exact ⟨rfl, rfl⟩
end Go.Proofs.YthkolkmcnpafiaaDoor

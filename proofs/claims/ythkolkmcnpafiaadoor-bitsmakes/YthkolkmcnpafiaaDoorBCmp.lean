/-
  Sub, Compare, and the document's Sub, Compare, Next: for every two sets, every number. No condition.
-/
import Derived.Test.YthkolkmcnpafiaaDoorBEq
import Derived.Test.YthkolkmcnpafiaaDoorBHas
import Derived.Deep.MidRow
namespace Go.Proofs.YthkolkmcnpafiaaDoor
open Go.RowKit
open Bs (Ok wd)

def listB (r : List Nat) : List Value := r.map fun x : Nat => Value.int .u64 (x : Int)
theorem listB_len {r : List Nat} (h : r.length = 16) : (listB r).length = 16 := by simp [listB, h]
theorem RowAt.range {w : World} {g : Nat} {r : List Nat} (h : RowAt w g r) : w.rangeAt g 0 (listB r) := fun j v hv => by
  rw [Nat.zero_add, cell_of_row w g j _ _ _ h]
  simpa [cellsB, listB] using hv
theorem sub_step {a b : List Nat} {k : Nat} (h : ∀ i, i < k → Bs.no (wd a i) (wd b i) = 0) (h0 : Bs.no (wd a k) (wd b k) = 0) : ∀ i, i < k + 1 → Bs.no (wd a i) (wd b i) = 0 := fun i hi => by
  by_cases e : i = k
  · rw [e]; exact h0
  · exact h i (by omega)
theorem ne_zero_int {z : Nat} : (((z : Int)) != 0) = (z != 0) := by
  rw [Bool.eq_iff_iff]; simp
set_option maxRecDepth 100000 in
set_option maxHeartbeats 2000000 in
theorem sub_any (w : World) {a b : List Nat} (ha : Ok a) (hb : Ok b) : Calls Tryd.prog 28 #[.agg (cellsB a), .agg (cellsB b)] w fun e w' => e = .returned (.bool (Bs.sub a b)) ∧ Below w.heap.size w w' := by
  have HO := show Hid (∀ k, bits .andNot .u64 (wd a k : Int) (wd b k : Int) = ((Bs.no (wd a k) (wd b k) : Nat) : Int)) from fun k => u64_andNot_nat _ _ (Bs.wd_lt ha k) (Bs.wd_lt hb k)
  have HA := show Hid (a.length = 16) from ha.1
  have HB := show Hid (b.length = 16) from hb.1
  have HT := show Hid (RowAt ((w.alloc (.cells (cellsB a) 25)).alloc (.cells (cellsB b) 25)) w.heap.size a ∧ RowAt ((w.alloc (.cells (cellsB a) 25)).alloc (.cells (cellsB b) 25)) (w.heap.size + 1) b) from heap_two w _ _
  clear ha hb
  go_enter Tryd.func28, Tryd.ntmps28
  go_wp2
  go_loopw [6] (fun n wr => ∃ k : Nat, k ≤ 16 ∧ n = .int .i64 (k : Int) ∧ Hid (RowAt wr w.heap.size a ∧ RowAt wr (w.heap.size + 1) b ∧ Below w.heap.size w wr ∧ ∀ i, i < k → Bs.no (wd a i) (wd b i) = 0)) (fun n _ => 16 - (intOf n).toNat)
  case atStart => exact ⟨0, by omega, rfl, HT.out.1, HT.out.2, below_two w _ _, fun i hi => by omega⟩
  case round =>
    obtain ⟨k, hk, rfl, HR⟩ := hrel
    clear HT
    by_cases hlt : k < 16
    · have ca := HR.out.1.cell (i := k) (by rw [HA.out]; exact hlt)
      have cb := HR.out.2.1.cell (i := k) (by rw [HB.out]; exact hlt)
      have ho := HO.out k
      have hnz := ne_zero_int (z := Bs.no (wd a k) (wd b k))
      clear HO
      by_cases hz : Bs.no (wd a k) (wd b k) = 0
      · have HZ := show Hid (∀ i, i < k + 1 → Bs.no (wd a i) (wd b i) = 0) from sub_step HR.out.2.2.2 hz
        rw [hz] at ho
        clear hz hnz
        generalize wd a k = x at *
        generalize wd b k = y at *
        go_wp2
        go_region
        all_goals go_wp2
        all_goals go_roundw
        case rel => exact ⟨k + 1, by omega, val_int (by omega), HR.out.1, HR.out.2.1, HR.out.2.2.1.drew, HZ.out⟩
        case measure => (simp only [intOf]; omega)
      · have HZ := show Hid (Bs.sub a b = false) from by
          cases h : Bs.sub a b
          · exact rfl
          · exact absurd (Bs.sub_iff.1 h k hlt) hz
        have hne : (((Bs.no (wd a k) (wd b k) : Nat) : Int) != 0) = true := by rw [hnz]; simpa using hz
        clear hz hnz
        generalize Bs.no (wd a k) (wd b k) = z at *
        generalize wd a k = x at *
        generalize wd b k = y at *
        go_wp2
        go_region
        all_goals go_wp2
        all_goals go_ret
        exact ⟨ret_bool HZ.out.symm, HR.out.2.2.1.drew⟩
    · have HZ := show Hid (Bs.sub a b = true) from Bs.sub_iff.2 fun i hi => HR.out.2.2.2 i (by omega)
      go_wp2
      go_ret
      exact ⟨ret_bool HZ.out.symm, HR.out.2.2.1⟩
set_option maxRecDepth 100000 in
theorem rsub_any (w : World) {a b : List Nat} (ha : Ok a) (hb : Ok b) : Calls Tryd.prog 29 #[.agg (cellsB a), .agg (cellsB b)] w fun e w' => e = .returned (.bool (Bs.sub a b)) ∧ Below w.heap.size w w' := by
  have KM := show Hid (∀ w, Calls Tryd.prog 27 #[.agg (cellsB a), .agg (cellsB b)] w fun e w' => e = .returned (.agg (cellsB (Bs.minus a b))) ∧ Below w.heap.size w w') from fun w => rminus_any w ha hb
  have HM := show Hid ((Bs.minus a b).length = 16) from (Bs.minus_ok ha hb).1
  have HD := show Hid (decide (Bs.minus a b = Bs.zero) = Bs.sub a b) from rfl
  have HA := show Hid (a.length = 16) from ha.1
  have HB := show Hid (b.length = 16) from hb.1
  generalize Bs.minus a b = m at *
  generalize Bs.sub a b = s at *
  clear ha hb
  go_enter Tryd.func29, Tryd.ntmps29
  go_wp2_with (first | (refine wpList_load16 _ rfl _ rfl _ rfl (r := a) (heap_two w _ _).1 HA.out ?_) | (refine wpList_load16 _ rfl _ rfl _ rfl (r := b) (heap_two w _ _).2 HB.out ?_) | (go_at_call 27; refine (KM.out _).mono ?_; rintro e w1 ⟨rfl, hb⟩; have HC := show Hid (Below w.heap.size w w1) from (below_two w _ _).trans (hb.mono (by simp; omega)); clear hb) | (refine wpList_eql16 _ rfl _ _ _ rfl (p := m) (q := Bs.zero) rfl rfl HM.out Bs.zero_ok.1 ?_))
  go_ret
  exact ⟨ret_bool HD.out, HC.out⟩
theorem ret_int {x y : Int} (h : x = y) : Ending.returned (.int .i64 x) = Ending.returned (.int .i64 y) := by rw [h]
theorem neg64 {z : Nat} (h0 : z ≠ 0) (hz : z < 18446744073709551616) : IntKind.u64.wrap (-(z : Int)) = ((18446744073709551616 - z : Nat) : Int) := by
  rw [IntKind.wrap_u64]
  omega
set_option maxRecDepth 100000 in
set_option maxHeartbeats 2000000 in
theorem cmp_any (w : World) {a b : List Nat} (ha : Ok a) (hb : Ok b) : Calls Tryd.prog 31 #[.agg (cellsB a), .agg (cellsB b)] w fun e w' => e = .returned (.int .i64 (Bs.cmp a b)) ∧ Below w.heap.size w w' := by
  have HO := show Hid (∀ k, bits .xor .u64 (wd a k : Int) (wd b k : Int) = ((wd a k ^^^ wd b k : Nat) : Int)) from fun k => u64_xor_nat _ _ (Bs.wd_lt ha k) (Bs.wd_lt hb k)
  have HN := show Hid (∀ k, wd a k ^^^ wd b k ≠ 0 → IntKind.u64.wrap (-((wd a k ^^^ wd b k : Nat) : Int)) = ((18446744073709551616 - (wd a k ^^^ wd b k) : Nat) : Int) ∧ bits .and .u64 ((wd a k ^^^ wd b k : Nat) : Int) ((18446744073709551616 - (wd a k ^^^ wd b k) : Nat) : Int) = ((2 ^ Lib.ctz 64 (wd a k ^^^ wd b k) : Nat) : Int) ∧ bits .and .u64 (wd a k : Int) ((2 ^ Lib.ctz 64 (wd a k ^^^ wd b k) : Nat) : Int) = ((wd a k &&& 2 ^ Lib.ctz 64 (wd a k ^^^ wd b k) : Nat) : Int)) from fun k h0 => by
    have hlt := Bs.xor_lt (Bs.wd_lt ha k) (Bs.wd_lt hb k)
    refine ⟨neg64 h0 hlt, ?_, ?_⟩
    · rw [u64_and_nat _ _ hlt (by omega), Bs.low_bit h0 hlt]
    · exact u64_and_nat _ _ (Bs.wd_lt ha k) (Bs.pow_lt (Bs.ctz_bits h0 hlt).1)
  have HW := show Hid (∀ i, i < 16 → (∀ k, k < i * 64 → Bs.has a k = Bs.has b k) → wd a i ^^^ wd b i ≠ 0 → Bs.cmp a b = if (wd a i).testBit (Lib.ctz 64 (wd a i ^^^ wd b i)) then -1 else 1) from fun i hi h1 h2 => Bs.apart_word ha hb hi h1 h2
  have HA := show Hid (a.length = 16) from ha.1
  have HB := show Hid (b.length = 16) from hb.1
  have HT := show Hid (RowAt ((w.alloc (.cells (cellsB a) 25)).alloc (.cells (cellsB b) 25)) w.heap.size a ∧ RowAt ((w.alloc (.cells (cellsB a) 25)).alloc (.cells (cellsB b) 25)) (w.heap.size + 1) b) from heap_two w _ _
  clear ha hb
  go_enter Tryd.func31, Tryd.ntmps31
  go_wp2
  go_loopw [8] (fun n wr => ∃ k : Nat, k ≤ 16 ∧ n = .int .i64 (k : Int) ∧ Hid (RowAt wr w.heap.size a ∧ RowAt wr (w.heap.size + 1) b ∧ Below w.heap.size w wr ∧ ∀ i, i < k * 64 → Bs.has a i = Bs.has b i)) (fun n _ => 16 - (intOf n).toNat)
  case atStart => exact ⟨0, by omega, rfl, HT.out.1, HT.out.2, below_two w _ _, fun i hi => by omega⟩
  case round =>
    obtain ⟨k, hk, rfl, HR⟩ := hrel
    clear HT
    by_cases hlt : k < 16
    · have ca := HR.out.1.cell (i := k) (by rw [HA.out]; exact hlt)
      have cb := HR.out.2.1.cell (i := k) (by rw [HB.out]; exact hlt)
      have ho := HO.out k
      clear HO
      by_cases hz : wd a k ^^^ wd b k = 0
      · have HZ := show Hid (∀ i, i < (k + 1) * 64 → Bs.has a i = Bs.has b i) from Bs.same_word HR.out.2.2.2 hz
        rw [hz] at ho
        clear hz HN HW
        generalize wd a k = x at *
        generalize wd b k = y at *
        go_wp2
        go_region
        all_goals go_wp2
        all_goals go_roundw
        case rel => exact ⟨k + 1, by omega, val_int (by omega), HR.out.1, HR.out.2.1, HR.out.2.2.1.drew, HZ.out⟩
        case measure => (simp only [intOf]; omega)
      · have HC := show Hid (Bs.cmp a b = if (wd a k).testBit (Lib.ctz 64 (wd a k ^^^ wd b k)) then -1 else 1) from HW.out k hlt HR.out.2.2.2 hz
        obtain ⟨hn1, hn2, hn3⟩ := HN.out k hz
        have hne := and_ne (wd a k) (Lib.ctz 64 (wd a k ^^^ wd b k))
        have hz2 : (((wd a k ^^^ wd b k : Nat) : Int) == 0) = false := by simpa using hz
        clear hz HN HW
        generalize wd a k ^^^ wd b k = z at *
        generalize 2 ^ Lib.ctz 64 z = p at *
        generalize 18446744073709551616 - z = nz at *
        generalize Lib.ctz 64 z = c at *
        generalize wd a k = x at *
        generalize wd b k = y at *
        cases ht : x.testBit c
        · rw [ht] at hne
          have HC2 := show Hid (Bs.cmp a b = 1) from by have := HC.out; rw [ht] at this; exact this
          clear HC ht
          go_wp2
          go_region
          all_goals go_wp2
          all_goals go_ret
          exact ⟨ret_int HC2.out.symm, HR.out.2.2.1.drew⟩
        · rw [ht] at hne
          have HC2 := show Hid (Bs.cmp a b = -1) from by have := HC.out; rw [ht] at this; exact this
          clear HC ht
          go_wp2
          go_region
          all_goals go_wp2
          all_goals go_ret
          exact ⟨ret_int HC2.out.symm, HR.out.2.2.1.drew⟩
    · have HZ := show Hid (Bs.cmp a b = 0) from Bs.cmp_same fun i hi => HR.out.2.2.2 i (by omega)
      go_wp2
      go_ret
      exact ⟨ret_int HZ.out.symm, HR.out.2.2.1⟩
end Go.Proofs.YthkolkmcnpafiaaDoor

/-
  Union, Meet, Minus, the program's and the document's: for every two sets. No condition.
-/
import Derived.Test.YthkolkmcnpafiaaDoorBMem
namespace Go.Proofs.YthkolkmcnpafiaaDoor
open Go.RowKit
open Bs (Ok wd)

theorem RowAt.keep {w w' : World} {g n : Nat} {r : List Nat} (h : RowAt w g r) (hb : Below n w w') (hg : g < n) : RowAt w' g r := (hb.block g hg).trans h
theorem RowAt.cell {w : World} {g : Nat} {r : List Nat} (h : RowAt w g r) {i : Nat} (hi : i < r.length) : w.cell? ⟨g, i, none⟩ = some (.int .u64 (wd r i : Int)) := by rw [cell_of_row w g i _ _ _ h, cellsB_at hi]
theorem RowAt.fr {w : World} {g : Nat} {r : List Nat} (h : RowAt w g r) (i : Nat) : w.frozen? ⟨g, i, none⟩ = false := frozen_of_row w g i _ _ h
theorem RowAt.setCell {w : World} {g : Nat} {r : List Nat} (h : RowAt w g r) (i x : Nat) : RowAt (w.setCell ⟨g, i, none⟩ (.int .u64 (x : Int))) g (r.set i x) := by
  have := heap_setCell_same w g i (cellsB r) 25 (.int .u64 (x : Int)) h
  rw [cellsB_set] at this
  exact this
theorem RowAt.other {w : World} {g : Nat} {r : List Nat} (h : RowAt w g r) {p : Addr} (hp : g ≠ p.block) (v : Value) : RowAt (w.setCell p v) g r := (Below.heap_setCell w p v g hp).trans h
theorem heap_three (w : World) (a b c : Obj) : (((w.alloc a).alloc b).alloc c).heap[w.heap.size]? = some a ∧ (((w.alloc a).alloc b).alloc c).heap[w.heap.size + 1]? = some b ∧ (((w.alloc a).alloc b).alloc c).heap[w.heap.size + 2]? = some c := by
  have h := heap_two w a b
  have h2 := heap_two (w.alloc a) b c
  rw [World.size_alloc] at h2
  refine ⟨?_, h2.1, h2.2⟩
  rw [Below.heap_alloc _ _ _ (by simp; omega)]
  exact h.1
theorem below_three (w : World) (a b c : Obj) : Below w.heap.size w (((w.alloc a).alloc b).alloc c) := (below_two w a b).alloc (by simp; omega) c
set_option maxRecDepth 100000 in
set_option maxHeartbeats 2000000 in
theorem union_any (w : World) {a b : List Nat} (ha : Ok a) (hb : Ok b) : Calls Tryd.prog 22 #[.agg (cellsB a), .agg (cellsB b)] w fun e w' => e = .returned (.agg (cellsB (Bs.union a b))) ∧ Below w.heap.size w w' := by
  have HM := show Hid (∀ k, k < 16 → (Bs.mix Bs.orW a b k).set k (Bs.orW (wd a k) (wd b k)) = Bs.mix Bs.orW a b (k + 1)) from fun k hk => Bs.mix_step _ a b hk
  have HL := show Hid (∀ k, (Bs.mix Bs.orW a b k).length = 16) from fun k => Bs.mix_len _ a b k
  have HW := show Hid (∀ k, k < 16 → wd (Bs.mix Bs.orW a b k) k = wd a k) from fun k hk => by rw [Bs.wd_mix _ _ _ _ hk, if_neg (Nat.lt_irrefl k)]
  have H0 := show Hid (Bs.mix Bs.orW a b 0 = a) from Bs.mix_zero _ b ha.1
  have HE := show Hid (Bs.mix Bs.orW a b 16 = Bs.union a b) from rfl
  have HO := show Hid (∀ k, bits .or .u64 (wd a k : Int) (wd b k : Int) = ((Bs.orW (wd a k) (wd b k) : Nat) : Int)) from fun k => u64_or_nat _ _ (Bs.wd_lt ha k) (Bs.wd_lt hb k)
  have HA := show Hid (a.length = 16) from ha.1
  have HB := show Hid (b.length = 16) from hb.1
  generalize Bs.mix Bs.orW a b = M at *
  generalize Bs.union a b = R at *
  clear ha hb
  have HT := show Hid (RowAt (((w.alloc (.cells (cellsB a) 25)).alloc (.cells (cellsB b) 25)).alloc (.cells #[.int .u64 0, .int .u64 0, .int .u64 0, .int .u64 0, .int .u64 0, .int .u64 0, .int .u64 0, .int .u64 0, .int .u64 0, .int .u64 0, .int .u64 0, .int .u64 0, .int .u64 0, .int .u64 0, .int .u64 0, .int .u64 0] 25)) w.heap.size a ∧ RowAt (((w.alloc (.cells (cellsB a) 25)).alloc (.cells (cellsB b) 25)).alloc (.cells #[.int .u64 0, .int .u64 0, .int .u64 0, .int .u64 0, .int .u64 0, .int .u64 0, .int .u64 0, .int .u64 0, .int .u64 0, .int .u64 0, .int .u64 0, .int .u64 0, .int .u64 0, .int .u64 0, .int .u64 0, .int .u64 0] 25)) (w.heap.size + 1) b ∧ RowAt (((w.alloc (.cells (cellsB a) 25)).alloc (.cells (cellsB b) 25)).alloc (.cells #[.int .u64 0, .int .u64 0, .int .u64 0, .int .u64 0, .int .u64 0, .int .u64 0, .int .u64 0, .int .u64 0, .int .u64 0, .int .u64 0, .int .u64 0, .int .u64 0, .int .u64 0, .int .u64 0, .int .u64 0, .int .u64 0] 25)) (w.heap.size + 2) Bs.zero) from heap_three w _ _ _
  go_enter Tryd.func22, Tryd.ntmps22
  go_wp2
  go_loopw [6] (fun n wr => ∃ k : Nat, k ≤ 16 ∧ n = .int .i64 (k : Int) ∧ Hid (RowAt wr w.heap.size (M k) ∧ RowAt wr (w.heap.size + 1) b ∧ RowAt wr (w.heap.size + 2) Bs.zero ∧ Below w.heap.size w wr)) (fun n _ => 16 - (intOf n).toNat)
  case atStart => exact ⟨0, by omega, rfl, by rw [H0.out]; exact HT.out.1, HT.out.2.1, HT.out.2.2, below_three w _ _ _⟩
  case round =>
    obtain ⟨k, hk, rfl, HR⟩ := hrel
    clear HT H0
    by_cases hlt : k < 16
    · have ca := HR.out.1.cell (i := k) (by rw [HL.out]; exact hlt)
      rw [HW.out k hlt] at ca
      have cb := HR.out.2.1.cell (i := k) (by rw [HB.out]; exact hlt)
      have fa := HR.out.1.fr k
      have ho := HO.out k
      have HN := show Hid ((M k).set k (Bs.orW (wd a k) (wd b k)) = M (k + 1)) from HM.out k hlt
      clear HO HW HM HE
      generalize Bs.orW (wd a k) (wd b k) = z at *
      generalize wd a k = x at *
      generalize wd b k = y at *
      go_wp2
      go_region
      all_goals go_wp2
      all_goals go_roundw
      case rel =>
        refine ⟨k + 1, by omega, val_int (by omega), ?_⟩
        have h1 := HR.out.1.setCell k z
        rw [HN.out] at h1
        exact ⟨h1, HR.out.2.1.other (by show w.heap.size + 1 ≠ w.heap.size; omega) _, HR.out.2.2.1.other (by show w.heap.size + 2 ≠ w.heap.size; omega) _, (HR.out.2.2.2.setCell (p := ⟨w.heap.size, k, none⟩) (Nat.le_refl _) _).drew⟩
      case measure => (simp only [intOf]; omega)
    · have HK := show Hid (M k = R) from by rw [show k = 16 by omega]; exact HE.out
      have HLR := show Hid (R.length = 16) from by rw [← HK.out]; exact HL.out k
      have HR2 := show Hid (RowAt wr w.heap.size R) from by rw [← HK.out]; exact HR.out.1
      go_wp2_with (first | (refine wpList_load16 _ rfl _ rfl _ rfl (r := R) HR2.out HLR.out ?_) | (refine wpList_store16 _ rfl rfl _ _ rfl _ rfl rfl (r := Bs.zero) HR.out.2.2.1 Bs.zero_ok.1 HLR.out ?_))
      refine bodyPost_ret (results_bits rfl _ _ (w.heap.size + 2) (r := R) rfl (RowAt.setRow (r := Bs.zero) HR.out.2.2.1 R) HLR.out) rfl ?_
      exact ⟨rfl, below_setRow HR.out.2.2.2 (by omega) _⟩
set_option maxRecDepth 100000 in
set_option maxHeartbeats 2000000 in
theorem meet_any (w : World) {a b : List Nat} (ha : Ok a) (hb : Ok b) : Calls Tryd.prog 24 #[.agg (cellsB a), .agg (cellsB b)] w fun e w' => e = .returned (.agg (cellsB (Bs.meet a b))) ∧ Below w.heap.size w w' := by
  have HM := show Hid (∀ k, k < 16 → (Bs.mix Bs.andW a b k).set k (Bs.andW (wd a k) (wd b k)) = Bs.mix Bs.andW a b (k + 1)) from fun k hk => Bs.mix_step _ a b hk
  have HL := show Hid (∀ k, (Bs.mix Bs.andW a b k).length = 16) from fun k => Bs.mix_len _ a b k
  have HW := show Hid (∀ k, k < 16 → wd (Bs.mix Bs.andW a b k) k = wd a k) from fun k hk => by rw [Bs.wd_mix _ _ _ _ hk, if_neg (Nat.lt_irrefl k)]
  have H0 := show Hid (Bs.mix Bs.andW a b 0 = a) from Bs.mix_zero _ b ha.1
  have HE := show Hid (Bs.mix Bs.andW a b 16 = Bs.meet a b) from rfl
  have HO := show Hid (∀ k, bits .and .u64 (wd a k : Int) (wd b k : Int) = ((Bs.andW (wd a k) (wd b k) : Nat) : Int)) from fun k => u64_and_nat _ _ (Bs.wd_lt ha k) (Bs.wd_lt hb k)
  have HA := show Hid (a.length = 16) from ha.1
  have HB := show Hid (b.length = 16) from hb.1
  generalize Bs.mix Bs.andW a b = M at *
  generalize Bs.meet a b = R at *
  clear ha hb
  have HT := show Hid (RowAt (((w.alloc (.cells (cellsB a) 25)).alloc (.cells (cellsB b) 25)).alloc (.cells #[.int .u64 0, .int .u64 0, .int .u64 0, .int .u64 0, .int .u64 0, .int .u64 0, .int .u64 0, .int .u64 0, .int .u64 0, .int .u64 0, .int .u64 0, .int .u64 0, .int .u64 0, .int .u64 0, .int .u64 0, .int .u64 0] 25)) w.heap.size a ∧ RowAt (((w.alloc (.cells (cellsB a) 25)).alloc (.cells (cellsB b) 25)).alloc (.cells #[.int .u64 0, .int .u64 0, .int .u64 0, .int .u64 0, .int .u64 0, .int .u64 0, .int .u64 0, .int .u64 0, .int .u64 0, .int .u64 0, .int .u64 0, .int .u64 0, .int .u64 0, .int .u64 0, .int .u64 0, .int .u64 0] 25)) (w.heap.size + 1) b ∧ RowAt (((w.alloc (.cells (cellsB a) 25)).alloc (.cells (cellsB b) 25)).alloc (.cells #[.int .u64 0, .int .u64 0, .int .u64 0, .int .u64 0, .int .u64 0, .int .u64 0, .int .u64 0, .int .u64 0, .int .u64 0, .int .u64 0, .int .u64 0, .int .u64 0, .int .u64 0, .int .u64 0, .int .u64 0, .int .u64 0] 25)) (w.heap.size + 2) Bs.zero) from heap_three w _ _ _
  go_enter Tryd.func24, Tryd.ntmps24
  go_wp2
  go_loopw [6] (fun n wr => ∃ k : Nat, k ≤ 16 ∧ n = .int .i64 (k : Int) ∧ Hid (RowAt wr w.heap.size (M k) ∧ RowAt wr (w.heap.size + 1) b ∧ RowAt wr (w.heap.size + 2) Bs.zero ∧ Below w.heap.size w wr)) (fun n _ => 16 - (intOf n).toNat)
  case atStart => exact ⟨0, by omega, rfl, by rw [H0.out]; exact HT.out.1, HT.out.2.1, HT.out.2.2, below_three w _ _ _⟩
  case round =>
    obtain ⟨k, hk, rfl, HR⟩ := hrel
    clear HT H0
    by_cases hlt : k < 16
    · have ca := HR.out.1.cell (i := k) (by rw [HL.out]; exact hlt)
      rw [HW.out k hlt] at ca
      have cb := HR.out.2.1.cell (i := k) (by rw [HB.out]; exact hlt)
      have fa := HR.out.1.fr k
      have ho := HO.out k
      have HN := show Hid ((M k).set k (Bs.andW (wd a k) (wd b k)) = M (k + 1)) from HM.out k hlt
      clear HO HW HM HE
      generalize Bs.andW (wd a k) (wd b k) = z at *
      generalize wd a k = x at *
      generalize wd b k = y at *
      go_wp2
      go_region
      all_goals go_wp2
      all_goals go_roundw
      case rel =>
        refine ⟨k + 1, by omega, val_int (by omega), ?_⟩
        have h1 := HR.out.1.setCell k z
        rw [HN.out] at h1
        exact ⟨h1, HR.out.2.1.other (by show w.heap.size + 1 ≠ w.heap.size; omega) _, HR.out.2.2.1.other (by show w.heap.size + 2 ≠ w.heap.size; omega) _, (HR.out.2.2.2.setCell (p := ⟨w.heap.size, k, none⟩) (Nat.le_refl _) _).drew⟩
      case measure => (simp only [intOf]; omega)
    · have HK := show Hid (M k = R) from by rw [show k = 16 by omega]; exact HE.out
      have HLR := show Hid (R.length = 16) from by rw [← HK.out]; exact HL.out k
      have HR2 := show Hid (RowAt wr w.heap.size R) from by rw [← HK.out]; exact HR.out.1
      go_wp2_with (first | (refine wpList_load16 _ rfl _ rfl _ rfl (r := R) HR2.out HLR.out ?_) | (refine wpList_store16 _ rfl rfl _ _ rfl _ rfl rfl (r := Bs.zero) HR.out.2.2.1 Bs.zero_ok.1 HLR.out ?_))
      refine bodyPost_ret (results_bits rfl _ _ (w.heap.size + 2) (r := R) rfl (RowAt.setRow (r := Bs.zero) HR.out.2.2.1 R) HLR.out) rfl ?_
      exact ⟨rfl, below_setRow HR.out.2.2.2 (by omega) _⟩
set_option maxRecDepth 100000 in
set_option maxHeartbeats 2000000 in
theorem minus_any (w : World) {a b : List Nat} (ha : Ok a) (hb : Ok b) : Calls Tryd.prog 26 #[.agg (cellsB a), .agg (cellsB b)] w fun e w' => e = .returned (.agg (cellsB (Bs.minus a b))) ∧ Below w.heap.size w w' := by
  have HM := show Hid (∀ k, k < 16 → (Bs.mix Bs.no a b k).set k (Bs.no (wd a k) (wd b k)) = Bs.mix Bs.no a b (k + 1)) from fun k hk => Bs.mix_step _ a b hk
  have HL := show Hid (∀ k, (Bs.mix Bs.no a b k).length = 16) from fun k => Bs.mix_len _ a b k
  have HW := show Hid (∀ k, k < 16 → wd (Bs.mix Bs.no a b k) k = wd a k) from fun k hk => by rw [Bs.wd_mix _ _ _ _ hk, if_neg (Nat.lt_irrefl k)]
  have H0 := show Hid (Bs.mix Bs.no a b 0 = a) from Bs.mix_zero _ b ha.1
  have HE := show Hid (Bs.mix Bs.no a b 16 = Bs.minus a b) from rfl
  have HO := show Hid (∀ k, bits .andNot .u64 (wd a k : Int) (wd b k : Int) = ((Bs.no (wd a k) (wd b k) : Nat) : Int)) from fun k => u64_andNot_nat _ _ (Bs.wd_lt ha k) (Bs.wd_lt hb k)
  have HA := show Hid (a.length = 16) from ha.1
  have HB := show Hid (b.length = 16) from hb.1
  generalize Bs.mix Bs.no a b = M at *
  generalize Bs.minus a b = R at *
  clear ha hb
  have HT := show Hid (RowAt (((w.alloc (.cells (cellsB a) 25)).alloc (.cells (cellsB b) 25)).alloc (.cells #[.int .u64 0, .int .u64 0, .int .u64 0, .int .u64 0, .int .u64 0, .int .u64 0, .int .u64 0, .int .u64 0, .int .u64 0, .int .u64 0, .int .u64 0, .int .u64 0, .int .u64 0, .int .u64 0, .int .u64 0, .int .u64 0] 25)) w.heap.size a ∧ RowAt (((w.alloc (.cells (cellsB a) 25)).alloc (.cells (cellsB b) 25)).alloc (.cells #[.int .u64 0, .int .u64 0, .int .u64 0, .int .u64 0, .int .u64 0, .int .u64 0, .int .u64 0, .int .u64 0, .int .u64 0, .int .u64 0, .int .u64 0, .int .u64 0, .int .u64 0, .int .u64 0, .int .u64 0, .int .u64 0] 25)) (w.heap.size + 1) b ∧ RowAt (((w.alloc (.cells (cellsB a) 25)).alloc (.cells (cellsB b) 25)).alloc (.cells #[.int .u64 0, .int .u64 0, .int .u64 0, .int .u64 0, .int .u64 0, .int .u64 0, .int .u64 0, .int .u64 0, .int .u64 0, .int .u64 0, .int .u64 0, .int .u64 0, .int .u64 0, .int .u64 0, .int .u64 0, .int .u64 0] 25)) (w.heap.size + 2) Bs.zero) from heap_three w _ _ _
  go_enter Tryd.func26, Tryd.ntmps26
  go_wp2
  go_loopw [6] (fun n wr => ∃ k : Nat, k ≤ 16 ∧ n = .int .i64 (k : Int) ∧ Hid (RowAt wr w.heap.size (M k) ∧ RowAt wr (w.heap.size + 1) b ∧ RowAt wr (w.heap.size + 2) Bs.zero ∧ Below w.heap.size w wr)) (fun n _ => 16 - (intOf n).toNat)
  case atStart => exact ⟨0, by omega, rfl, by rw [H0.out]; exact HT.out.1, HT.out.2.1, HT.out.2.2, below_three w _ _ _⟩
  case round =>
    obtain ⟨k, hk, rfl, HR⟩ := hrel
    clear HT H0
    by_cases hlt : k < 16
    · have ca := HR.out.1.cell (i := k) (by rw [HL.out]; exact hlt)
      rw [HW.out k hlt] at ca
      have cb := HR.out.2.1.cell (i := k) (by rw [HB.out]; exact hlt)
      have fa := HR.out.1.fr k
      have ho := HO.out k
      have HN := show Hid ((M k).set k (Bs.no (wd a k) (wd b k)) = M (k + 1)) from HM.out k hlt
      clear HO HW HM HE
      generalize Bs.no (wd a k) (wd b k) = z at *
      generalize wd a k = x at *
      generalize wd b k = y at *
      go_wp2
      go_region
      all_goals go_wp2
      all_goals go_roundw
      case rel =>
        refine ⟨k + 1, by omega, val_int (by omega), ?_⟩
        have h1 := HR.out.1.setCell k z
        rw [HN.out] at h1
        exact ⟨h1, HR.out.2.1.other (by show w.heap.size + 1 ≠ w.heap.size; omega) _, HR.out.2.2.1.other (by show w.heap.size + 2 ≠ w.heap.size; omega) _, (HR.out.2.2.2.setCell (p := ⟨w.heap.size, k, none⟩) (Nat.le_refl _) _).drew⟩
      case measure => (simp only [intOf]; omega)
    · have HK := show Hid (M k = R) from by rw [show k = 16 by omega]; exact HE.out
      have HLR := show Hid (R.length = 16) from by rw [← HK.out]; exact HL.out k
      have HR2 := show Hid (RowAt wr w.heap.size R) from by rw [← HK.out]; exact HR.out.1
      go_wp2_with (first | (refine wpList_load16 _ rfl _ rfl _ rfl (r := R) HR2.out HLR.out ?_) | (refine wpList_store16 _ rfl rfl _ _ rfl _ rfl rfl (r := Bs.zero) HR.out.2.2.1 Bs.zero_ok.1 HLR.out ?_))
      refine bodyPost_ret (results_bits rfl _ _ (w.heap.size + 2) (r := R) rfl (RowAt.setRow (r := Bs.zero) HR.out.2.2.1 R) HLR.out) rfl ?_
      exact ⟨rfl, below_setRow HR.out.2.2.2 (by omega) _⟩
set_option maxRecDepth 100000 in
set_option maxHeartbeats 2000000 in
theorem runion_any (w : World) {a b : List Nat} (ha : Ok a) (hb : Ok b) : Calls Tryd.prog 23 #[.agg (cellsB a), .agg (cellsB b)] w fun e w' => e = .returned (.agg (cellsB (Bs.union a b))) ∧ Below w.heap.size w w' := by
  have HM := show Hid (∀ k, k < 16 → (Bs.mix Bs.orW a b k).set k (Bs.orW (wd a k) (wd b k)) = Bs.mix Bs.orW a b (k + 1)) from fun k hk => Bs.mix_step _ a b hk
  have HL := show Hid (∀ k, (Bs.mix Bs.orW a b k).length = 16) from fun k => Bs.mix_len _ a b k
  have HW := show Hid (∀ k, k < 16 → wd (Bs.mix Bs.orW a b k) k = wd a k) from fun k hk => by rw [Bs.wd_mix _ _ _ _ hk, if_neg (Nat.lt_irrefl k)]
  have H0 := show Hid (Bs.mix Bs.orW a b 0 = a) from Bs.mix_zero _ b ha.1
  have HE := show Hid (Bs.mix Bs.orW a b 16 = Bs.union a b) from rfl
  have HO := show Hid (∀ k, bits .or .u64 (wd a k : Int) (wd b k : Int) = ((Bs.orW (wd a k) (wd b k) : Nat) : Int)) from fun k => u64_or_nat _ _ (Bs.wd_lt ha k) (Bs.wd_lt hb k)
  have HA := show Hid (a.length = 16) from ha.1
  have HB := show Hid (b.length = 16) from hb.1
  generalize Bs.mix Bs.orW a b = M at *
  generalize Bs.union a b = R at *
  clear ha hb
  have HT := show Hid (RowAt (((w.alloc (.cells (cellsB a) 25)).alloc (.cells (cellsB b) 25)).alloc (.cells #[.int .u64 0, .int .u64 0, .int .u64 0, .int .u64 0, .int .u64 0, .int .u64 0, .int .u64 0, .int .u64 0, .int .u64 0, .int .u64 0, .int .u64 0, .int .u64 0, .int .u64 0, .int .u64 0, .int .u64 0, .int .u64 0] 25)) w.heap.size a ∧ RowAt (((w.alloc (.cells (cellsB a) 25)).alloc (.cells (cellsB b) 25)).alloc (.cells #[.int .u64 0, .int .u64 0, .int .u64 0, .int .u64 0, .int .u64 0, .int .u64 0, .int .u64 0, .int .u64 0, .int .u64 0, .int .u64 0, .int .u64 0, .int .u64 0, .int .u64 0, .int .u64 0, .int .u64 0, .int .u64 0] 25)) (w.heap.size + 1) b ∧ RowAt (((w.alloc (.cells (cellsB a) 25)).alloc (.cells (cellsB b) 25)).alloc (.cells #[.int .u64 0, .int .u64 0, .int .u64 0, .int .u64 0, .int .u64 0, .int .u64 0, .int .u64 0, .int .u64 0, .int .u64 0, .int .u64 0, .int .u64 0, .int .u64 0, .int .u64 0, .int .u64 0, .int .u64 0, .int .u64 0] 25)) (w.heap.size + 2) Bs.zero) from heap_three w _ _ _
  go_enter Tryd.func23, Tryd.ntmps23
  go_wp2
  go_loopw [5] (fun n wr => ∃ k : Nat, k ≤ 16 ∧ n = .int .i64 (k : Int) ∧ Hid (RowAt wr w.heap.size (M k) ∧ RowAt wr (w.heap.size + 1) b ∧ RowAt wr (w.heap.size + 2) Bs.zero ∧ Below w.heap.size w wr)) (fun n _ => 16 - (intOf n).toNat)
  case atStart => exact ⟨0, by omega, rfl, by rw [H0.out]; exact HT.out.1, HT.out.2.1, HT.out.2.2, below_three w _ _ _⟩
  case round =>
    obtain ⟨k, hk, rfl, HR⟩ := hrel
    clear HT H0
    by_cases hlt : k < 16
    · have ca := HR.out.1.cell (i := k) (by rw [HL.out]; exact hlt)
      rw [HW.out k hlt] at ca
      have cb := HR.out.2.1.cell (i := k) (by rw [HB.out]; exact hlt)
      have fa := HR.out.1.fr k
      have ho := HO.out k
      have HN := show Hid ((M k).set k (Bs.orW (wd a k) (wd b k)) = M (k + 1)) from HM.out k hlt
      clear HO HW HM HE
      generalize Bs.orW (wd a k) (wd b k) = z at *
      generalize wd a k = x at *
      generalize wd b k = y at *
      go_wp2
      go_region
      all_goals go_wp2
      all_goals go_roundw
      case rel =>
        refine ⟨k + 1, by omega, val_int (by omega), ?_⟩
        have h1 := HR.out.1.setCell k z
        rw [HN.out] at h1
        exact ⟨h1, HR.out.2.1.other (by show w.heap.size + 1 ≠ w.heap.size; omega) _, HR.out.2.2.1.other (by show w.heap.size + 2 ≠ w.heap.size; omega) _, (HR.out.2.2.2.setCell (p := ⟨w.heap.size, k, none⟩) (Nat.le_refl _) _).drew⟩
      case measure => (simp only [intOf]; omega)
    · have HK := show Hid (M k = R) from by rw [show k = 16 by omega]; exact HE.out
      have HLR := show Hid (R.length = 16) from by rw [← HK.out]; exact HL.out k
      have HR2 := show Hid (RowAt wr w.heap.size R) from by rw [← HK.out]; exact HR.out.1
      go_wp2_with (first | (refine wpList_load16 _ rfl _ rfl _ rfl (r := R) HR2.out HLR.out ?_) | (refine wpList_store16 _ rfl rfl _ _ rfl _ rfl rfl (r := Bs.zero) HR.out.2.2.1 Bs.zero_ok.1 HLR.out ?_))
      refine bodyPost_ret (results_bits rfl _ _ (w.heap.size + 2) (r := R) rfl (RowAt.setRow (r := Bs.zero) HR.out.2.2.1 R) HLR.out) rfl ?_
      exact ⟨rfl, below_setRow HR.out.2.2.2 (by omega) _⟩
set_option maxRecDepth 100000 in
set_option maxHeartbeats 2000000 in
theorem rmeet_any (w : World) {a b : List Nat} (ha : Ok a) (hb : Ok b) : Calls Tryd.prog 25 #[.agg (cellsB a), .agg (cellsB b)] w fun e w' => e = .returned (.agg (cellsB (Bs.meet a b))) ∧ Below w.heap.size w w' := by
  have HM := show Hid (∀ k, k < 16 → (Bs.mix Bs.andW a b k).set k (Bs.andW (wd a k) (wd b k)) = Bs.mix Bs.andW a b (k + 1)) from fun k hk => Bs.mix_step _ a b hk
  have HL := show Hid (∀ k, (Bs.mix Bs.andW a b k).length = 16) from fun k => Bs.mix_len _ a b k
  have HW := show Hid (∀ k, k < 16 → wd (Bs.mix Bs.andW a b k) k = wd a k) from fun k hk => by rw [Bs.wd_mix _ _ _ _ hk, if_neg (Nat.lt_irrefl k)]
  have H0 := show Hid (Bs.mix Bs.andW a b 0 = a) from Bs.mix_zero _ b ha.1
  have HE := show Hid (Bs.mix Bs.andW a b 16 = Bs.meet a b) from rfl
  have HO := show Hid (∀ k, bits .and .u64 (wd a k : Int) (wd b k : Int) = ((Bs.andW (wd a k) (wd b k) : Nat) : Int)) from fun k => u64_and_nat _ _ (Bs.wd_lt ha k) (Bs.wd_lt hb k)
  have HA := show Hid (a.length = 16) from ha.1
  have HB := show Hid (b.length = 16) from hb.1
  generalize Bs.mix Bs.andW a b = M at *
  generalize Bs.meet a b = R at *
  clear ha hb
  have HT := show Hid (RowAt (((w.alloc (.cells (cellsB a) 25)).alloc (.cells (cellsB b) 25)).alloc (.cells #[.int .u64 0, .int .u64 0, .int .u64 0, .int .u64 0, .int .u64 0, .int .u64 0, .int .u64 0, .int .u64 0, .int .u64 0, .int .u64 0, .int .u64 0, .int .u64 0, .int .u64 0, .int .u64 0, .int .u64 0, .int .u64 0] 25)) w.heap.size a ∧ RowAt (((w.alloc (.cells (cellsB a) 25)).alloc (.cells (cellsB b) 25)).alloc (.cells #[.int .u64 0, .int .u64 0, .int .u64 0, .int .u64 0, .int .u64 0, .int .u64 0, .int .u64 0, .int .u64 0, .int .u64 0, .int .u64 0, .int .u64 0, .int .u64 0, .int .u64 0, .int .u64 0, .int .u64 0, .int .u64 0] 25)) (w.heap.size + 1) b ∧ RowAt (((w.alloc (.cells (cellsB a) 25)).alloc (.cells (cellsB b) 25)).alloc (.cells #[.int .u64 0, .int .u64 0, .int .u64 0, .int .u64 0, .int .u64 0, .int .u64 0, .int .u64 0, .int .u64 0, .int .u64 0, .int .u64 0, .int .u64 0, .int .u64 0, .int .u64 0, .int .u64 0, .int .u64 0, .int .u64 0] 25)) (w.heap.size + 2) Bs.zero) from heap_three w _ _ _
  go_enter Tryd.func25, Tryd.ntmps25
  go_wp2
  go_loopw [5] (fun n wr => ∃ k : Nat, k ≤ 16 ∧ n = .int .i64 (k : Int) ∧ Hid (RowAt wr w.heap.size (M k) ∧ RowAt wr (w.heap.size + 1) b ∧ RowAt wr (w.heap.size + 2) Bs.zero ∧ Below w.heap.size w wr)) (fun n _ => 16 - (intOf n).toNat)
  case atStart => exact ⟨0, by omega, rfl, by rw [H0.out]; exact HT.out.1, HT.out.2.1, HT.out.2.2, below_three w _ _ _⟩
  case round =>
    obtain ⟨k, hk, rfl, HR⟩ := hrel
    clear HT H0
    by_cases hlt : k < 16
    · have ca := HR.out.1.cell (i := k) (by rw [HL.out]; exact hlt)
      rw [HW.out k hlt] at ca
      have cb := HR.out.2.1.cell (i := k) (by rw [HB.out]; exact hlt)
      have fa := HR.out.1.fr k
      have ho := HO.out k
      have HN := show Hid ((M k).set k (Bs.andW (wd a k) (wd b k)) = M (k + 1)) from HM.out k hlt
      clear HO HW HM HE
      generalize Bs.andW (wd a k) (wd b k) = z at *
      generalize wd a k = x at *
      generalize wd b k = y at *
      go_wp2
      go_region
      all_goals go_wp2
      all_goals go_roundw
      case rel =>
        refine ⟨k + 1, by omega, val_int (by omega), ?_⟩
        have h1 := HR.out.1.setCell k z
        rw [HN.out] at h1
        exact ⟨h1, HR.out.2.1.other (by show w.heap.size + 1 ≠ w.heap.size; omega) _, HR.out.2.2.1.other (by show w.heap.size + 2 ≠ w.heap.size; omega) _, (HR.out.2.2.2.setCell (p := ⟨w.heap.size, k, none⟩) (Nat.le_refl _) _).drew⟩
      case measure => (simp only [intOf]; omega)
    · have HK := show Hid (M k = R) from by rw [show k = 16 by omega]; exact HE.out
      have HLR := show Hid (R.length = 16) from by rw [← HK.out]; exact HL.out k
      have HR2 := show Hid (RowAt wr w.heap.size R) from by rw [← HK.out]; exact HR.out.1
      go_wp2_with (first | (refine wpList_load16 _ rfl _ rfl _ rfl (r := R) HR2.out HLR.out ?_) | (refine wpList_store16 _ rfl rfl _ _ rfl _ rfl rfl (r := Bs.zero) HR.out.2.2.1 Bs.zero_ok.1 HLR.out ?_))
      refine bodyPost_ret (results_bits rfl _ _ (w.heap.size + 2) (r := R) rfl (RowAt.setRow (r := Bs.zero) HR.out.2.2.1 R) HLR.out) rfl ?_
      exact ⟨rfl, below_setRow HR.out.2.2.2 (by omega) _⟩
set_option maxRecDepth 100000 in
set_option maxHeartbeats 2000000 in
theorem rminus_any (w : World) {a b : List Nat} (ha : Ok a) (hb : Ok b) : Calls Tryd.prog 27 #[.agg (cellsB a), .agg (cellsB b)] w fun e w' => e = .returned (.agg (cellsB (Bs.minus a b))) ∧ Below w.heap.size w w' := by
  have HM := show Hid (∀ k, k < 16 → (Bs.mix Bs.no a b k).set k (Bs.no (wd a k) (wd b k)) = Bs.mix Bs.no a b (k + 1)) from fun k hk => Bs.mix_step _ a b hk
  have HL := show Hid (∀ k, (Bs.mix Bs.no a b k).length = 16) from fun k => Bs.mix_len _ a b k
  have HW := show Hid (∀ k, k < 16 → wd (Bs.mix Bs.no a b k) k = wd a k) from fun k hk => by rw [Bs.wd_mix _ _ _ _ hk, if_neg (Nat.lt_irrefl k)]
  have H0 := show Hid (Bs.mix Bs.no a b 0 = a) from Bs.mix_zero _ b ha.1
  have HE := show Hid (Bs.mix Bs.no a b 16 = Bs.minus a b) from rfl
  have HO := show Hid (∀ k, bits .andNot .u64 (wd a k : Int) (wd b k : Int) = ((Bs.no (wd a k) (wd b k) : Nat) : Int)) from fun k => u64_andNot_nat _ _ (Bs.wd_lt ha k) (Bs.wd_lt hb k)
  have HA := show Hid (a.length = 16) from ha.1
  have HB := show Hid (b.length = 16) from hb.1
  generalize Bs.mix Bs.no a b = M at *
  generalize Bs.minus a b = R at *
  clear ha hb
  have HT := show Hid (RowAt (((w.alloc (.cells (cellsB a) 25)).alloc (.cells (cellsB b) 25)).alloc (.cells #[.int .u64 0, .int .u64 0, .int .u64 0, .int .u64 0, .int .u64 0, .int .u64 0, .int .u64 0, .int .u64 0, .int .u64 0, .int .u64 0, .int .u64 0, .int .u64 0, .int .u64 0, .int .u64 0, .int .u64 0, .int .u64 0] 25)) w.heap.size a ∧ RowAt (((w.alloc (.cells (cellsB a) 25)).alloc (.cells (cellsB b) 25)).alloc (.cells #[.int .u64 0, .int .u64 0, .int .u64 0, .int .u64 0, .int .u64 0, .int .u64 0, .int .u64 0, .int .u64 0, .int .u64 0, .int .u64 0, .int .u64 0, .int .u64 0, .int .u64 0, .int .u64 0, .int .u64 0, .int .u64 0] 25)) (w.heap.size + 1) b ∧ RowAt (((w.alloc (.cells (cellsB a) 25)).alloc (.cells (cellsB b) 25)).alloc (.cells #[.int .u64 0, .int .u64 0, .int .u64 0, .int .u64 0, .int .u64 0, .int .u64 0, .int .u64 0, .int .u64 0, .int .u64 0, .int .u64 0, .int .u64 0, .int .u64 0, .int .u64 0, .int .u64 0, .int .u64 0, .int .u64 0] 25)) (w.heap.size + 2) Bs.zero) from heap_three w _ _ _
  go_enter Tryd.func27, Tryd.ntmps27
  go_wp2
  go_loopw [5] (fun n wr => ∃ k : Nat, k ≤ 16 ∧ n = .int .i64 (k : Int) ∧ Hid (RowAt wr w.heap.size (M k) ∧ RowAt wr (w.heap.size + 1) b ∧ RowAt wr (w.heap.size + 2) Bs.zero ∧ Below w.heap.size w wr)) (fun n _ => 16 - (intOf n).toNat)
  case atStart => exact ⟨0, by omega, rfl, by rw [H0.out]; exact HT.out.1, HT.out.2.1, HT.out.2.2, below_three w _ _ _⟩
  case round =>
    obtain ⟨k, hk, rfl, HR⟩ := hrel
    clear HT H0
    by_cases hlt : k < 16
    · have ca := HR.out.1.cell (i := k) (by rw [HL.out]; exact hlt)
      rw [HW.out k hlt] at ca
      have cb := HR.out.2.1.cell (i := k) (by rw [HB.out]; exact hlt)
      have fa := HR.out.1.fr k
      have ho := HO.out k
      have HN := show Hid ((M k).set k (Bs.no (wd a k) (wd b k)) = M (k + 1)) from HM.out k hlt
      clear HO HW HM HE
      generalize Bs.no (wd a k) (wd b k) = z at *
      generalize wd a k = x at *
      generalize wd b k = y at *
      go_wp2
      go_region
      all_goals go_wp2
      all_goals go_roundw
      case rel =>
        refine ⟨k + 1, by omega, val_int (by omega), ?_⟩
        have h1 := HR.out.1.setCell k z
        rw [HN.out] at h1
        exact ⟨h1, HR.out.2.1.other (by show w.heap.size + 1 ≠ w.heap.size; omega) _, HR.out.2.2.1.other (by show w.heap.size + 2 ≠ w.heap.size; omega) _, (HR.out.2.2.2.setCell (p := ⟨w.heap.size, k, none⟩) (Nat.le_refl _) _).drew⟩
      case measure => (simp only [intOf]; omega)
    · have HK := show Hid (M k = R) from by rw [show k = 16 by omega]; exact HE.out
      have HLR := show Hid (R.length = 16) from by rw [← HK.out]; exact HL.out k
      have HR2 := show Hid (RowAt wr w.heap.size R) from by rw [← HK.out]; exact HR.out.1
      go_wp2_with (first | (refine wpList_load16 _ rfl _ rfl _ rfl (r := R) HR2.out HLR.out ?_) | (refine wpList_store16 _ rfl rfl _ _ rfl _ rfl rfl (r := Bs.zero) HR.out.2.2.1 Bs.zero_ok.1 HLR.out ?_))
      refine bodyPost_ret (results_bits rfl _ _ (w.heap.size + 2) (r := R) rfl (RowAt.setRow (r := Bs.zero) HR.out.2.2.1 R) HLR.out) rfl ?_
      exact ⟨rfl, below_setRow HR.out.2.2.2 (by omega) _⟩
end Go.Proofs.YthkolkmcnpafiaaDoor

/-
  The document's Of: for every list of numbers. No condition.
-/
import Derived.Test.YtkejippimkjjaaaGreatDoorBG4
namespace Go.Proofs.YtkejippimkjjaaaGreatDoor.Bt
open Go.RowKit
open Bs (Ok wd)

end Go.Proofs.YtkejippimkjjaaaGreatDoor.Bt
/-
  The document's Drop: for every set and every number. No condition.
-/
namespace Go.Proofs.YtkejippimkjjaaaGreatDoor.Bt
open Go.RowKit
open Bs (Ok wd)

def DQ (w wr : World) (r : List Nat) : Prop := RowAt wr w.heap.size r ∧ RowAt wr (w.heap.size + 1) Bs.zero ∧ Below w.heap.size w wr
theorem dq_has (w : World) (r : List Nat) : DQ w (((w.alloc (.cells (cellsB r) 25)).alloc (.cells #[.int .u64 0, .int .u64 0, .int .u64 0, .int .u64 0, .int .u64 0, .int .u64 0, .int .u64 0, .int .u64 0, .int .u64 0, .int .u64 0, .int .u64 0, .int .u64 0, .int .u64 0, .int .u64 0, .int .u64 0, .int .u64 0] 25)).alloc (.cells (cellsB r) 25)) r := by
  have h := heap_two w (.cells (cellsB r) 25) (.cells #[.int .u64 0, .int .u64 0, .int .u64 0, .int .u64 0, .int .u64 0, .int .u64 0, .int .u64 0, .int .u64 0, .int .u64 0, .int .u64 0, .int .u64 0, .int .u64 0, .int .u64 0, .int .u64 0, .int .u64 0, .int .u64 0] 25)
  have hb := below_alloc ((w.alloc (.cells (cellsB r) 25)).alloc (.cells #[.int .u64 0, .int .u64 0, .int .u64 0, .int .u64 0, .int .u64 0, .int .u64 0, .int .u64 0, .int .u64 0, .int .u64 0, .int .u64 0, .int .u64 0, .int .u64 0, .int .u64 0, .int .u64 0, .int .u64 0, .int .u64 0] 25)) (.cells (cellsB r) 25)
  have h1 : RowAt ((w.alloc (.cells (cellsB r) 25)).alloc (.cells #[.int .u64 0, .int .u64 0, .int .u64 0, .int .u64 0, .int .u64 0, .int .u64 0, .int .u64 0, .int .u64 0, .int .u64 0, .int .u64 0, .int .u64 0, .int .u64 0, .int .u64 0, .int .u64 0, .int .u64 0, .int .u64 0] 25)) w.heap.size r := h.1
  have h2 : RowAt ((w.alloc (.cells (cellsB r) 25)).alloc (.cells #[.int .u64 0, .int .u64 0, .int .u64 0, .int .u64 0, .int .u64 0, .int .u64 0, .int .u64 0, .int .u64 0, .int .u64 0, .int .u64 0, .int .u64 0, .int .u64 0, .int .u64 0, .int .u64 0, .int .u64 0, .int .u64 0] 25)) (w.heap.size + 1) Bs.zero := h.2
  exact ⟨h1.keep hb h1.lt, h2.keep hb h2.lt, (below_two w _ _).trans (hb.mono (by simp only [World.size_alloc]; omega))⟩
set_option maxRecDepth 100000 in
set_option maxHeartbeats 4000000 in
theorem rdrop_any (w : World) {r : List Nat} (hr : Ok r) (n : Int) : Calls Tryz.prog 57 #[.agg (cellsB r), .int .i64 n] w fun e w' => e = .returned (.agg (cellsB (dropI r n))) ∧ Below w.heap.size w w' := by
  have HR := show Hid (r.length = 16) from hr.1
  have HT := show Hid (RowAt ((w.alloc (.cells (cellsB r) 25)).alloc (.cells #[.int .u64 0, .int .u64 0, .int .u64 0, .int .u64 0, .int .u64 0, .int .u64 0, .int .u64 0, .int .u64 0, .int .u64 0, .int .u64 0, .int .u64 0, .int .u64 0, .int .u64 0, .int .u64 0, .int .u64 0, .int .u64 0] 25)) w.heap.size r) from (heap_two w _ _).1
  have HD := show Hid (DQ w (((w.alloc (.cells (cellsB r) 25)).alloc (.cells #[.int .u64 0, .int .u64 0, .int .u64 0, .int .u64 0, .int .u64 0, .int .u64 0, .int .u64 0, .int .u64 0, .int .u64 0, .int .u64 0, .int .u64 0, .int .u64 0, .int .u64 0, .int .u64 0, .int .u64 0, .int .u64 0] 25)).alloc (.cells (cellsB r) 25)) r) from dq_has w r
  have KH0 := fun w => rhas_any w hr n
  cases hh : Bs.hasI r n
  · have HP := show Hid (dropI r n = r) from by
      show dropI r n = r
      by_cases hn : 0 ≤ n ∧ n < 1024
      · obtain ⟨m, rfl⟩ := Int.eq_ofNat_of_zero_le hn.1
        have hm : m < 1024 := by omega
        rw [dropI_nat r hm]
        rw [hasI_nat r hm] at hh
        exact Bs.drop_none hr hm hh
      · exact dropI_out r hn
    rw [hh] at KH0
    have KH := show Hid (∀ w, Calls Tryz.prog 53 #[.agg (cellsB r), .int .i64 n] w fun e w' => e = .returned (.bool false) ∧ w' = w.alloc (.cells (cellsB r) 25)) from KH0
    clear KH0 hh hr
    go_enter Tryz.func57, Tryz.ntmps57
    go_wp2_with (first | (refine wpList_ld _ _ rfl _ rfl (r := r) HT.out HR.out rfl ?_) | (go_at_call 53; refine (KH.out _).mono ?_; rintro e w' ⟨rfl, rfl⟩) | (refine wpList_ld _ _ rfl _ rfl (r := r) HD.out.1 HR.out rfl ?_) | (refine wpList_store16 _ rfl rfl _ _ rfl _ rfl rfl (r := Bs.zero) HD.out.2.1 Bs.zero_ok.1 HR.out ?_))
    refine bodyPost_ret (results_bits rfl _ _ (w.heap.size + 1) (r := r) rfl (RowAt.setRow (r := Bs.zero) HD.out.2.1 r) HR.out) rfl ?_
    exact ⟨by rw [HP.out], below_setRow HD.out.2.2 (Nat.le_succ _) _⟩
  · have hn : 0 ≤ n ∧ n < 1024 := Classical.byContradiction fun h => by rw [hasI_out r h] at hh; cases hh
    obtain ⟨m, rfl⟩ := Int.eq_ofNat_of_zero_le hn.1
    have hm : m < 1024 := by omega
    have HP := show Hid (dropI r (m : Int) = Bs.drop r m) from dropI_nat r hm
    rw [hh] at KH0
    have KH := show Hid (∀ w, Calls Tryz.prog 53 #[.agg (cellsB r), .int .i64 (m : Int)] w fun e w' => e = .returned (.bool true) ∧ w' = w.alloc (.cells (cellsB r) 25)) from KH0
    have hq : m / 64 < 16 := by omega
    have hxor := u64_xor_nat (wd r (m / 64)) (2 ^ (m % 64)) (Bs.wd_lt hr _) (Bs.pow_lt (Nat.mod_lt _ (by omega)))
    have hp := pow64 m
    have HS := show Hid ((Bs.drop r m).length = 16) from (Bs.drop_ok hr m).1
    have HX := show Hid (r.set (m / 64) (wd r (m / 64) ^^^ 2 ^ (m % 64)) = Bs.drop r m) from Bs.drop_xor hr (by rw [hasI_nat r hm] at hh; exact hh)
    generalize Bs.drop r m = r' at *
    rw [← hp] at hxor
    clear KH0 hh hr hn hp
    go_enter Tryz.func57, Tryz.ntmps57
    go_wp2_with (first | (refine wpList_ld _ _ rfl _ rfl (r := r) HT.out HR.out rfl ?_) | (go_at_call 53; refine (KH.out _).mono ?_; rintro e W2 ⟨rfl, hw⟩; have HD2 := show Hid (DQ w W2 r) from (by rw [hw]; exact HD.out); have hcl := HD2.out.1.cell (i := m / 64) (by rw [HR.out]; exact hq); have hfr := HD2.out.1.fr (m / 64); have HNW := show Hid (RowAt (W2.setCell ⟨w.heap.size, m / 64, none⟩ (.int .u64 ((wd r (m / 64) ^^^ 2 ^ (m % 64) : Nat) : Int))) w.heap.size r') from (by rw [← HX.out]; exact HD2.out.1.setCell (m / 64) (wd r (m / 64) ^^^ 2 ^ (m % 64))); have HNZ := show Hid (RowAt (W2.setCell ⟨w.heap.size, m / 64, none⟩ (.int .u64 ((wd r (m / 64) ^^^ 2 ^ (m % 64) : Nat) : Int))) (w.heap.size + 1) Bs.zero) from HD2.out.2.1.other (by show w.heap.size + 1 ≠ w.heap.size; omega) _; clear hw HD HT) | (refine wpList_ld _ _ rfl _ rfl (r := r') HNW.out HS.out rfl ?_) | (refine wpList_store16 _ rfl rfl _ _ rfl _ rfl rfl (r := Bs.zero) HNZ.out Bs.zero_ok.1 HS.out ?_))
    refine bodyPost_ret (results_bits rfl _ _ (w.heap.size + 1) (r := r') rfl (RowAt.setRow (r := Bs.zero) HNZ.out r') HS.out) rfl ?_
    exact ⟨by rw [HP.out], below_setRow (HD2.out.2.2.setCell (p := ⟨w.heap.size, m / 64, none⟩) (Nat.le_refl _) _) (Nat.le_succ _) _⟩
end Go.Proofs.YtkejippimkjjaaaGreatDoor.Bt
